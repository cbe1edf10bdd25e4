/- LogCheckpoints: every checkpoint's bytes, and what any bytes tell, for every argument. Part 1. -/
import Derived.Test.YtglkndoghnblcaaGreatOvl
import Derived.Deep.RegionHeld
import Derived.Test.YtglkndoghnblcaaGreatOva
import Derived.Test.YtglkndoghnblcaaGreatRows
import Derived.WalkKit
import Derived.WalkMore
import Derived.ProofKit
import Derived.Outline
import Derived.WalkLawsBesides
import Derived.WalkSpells
import Derived.Lib.Hide
import Derived.Below
import Derived.WalkSmall
import Derived.BigRegion
import Derived.Laws.Rows
import Derived.Laws.BytesArg
import Derived.Laws.Concat
import Derived.Laws.OwnMore
import Derived.Deep.QuietTactic
import Derived.BigQuiet
import Derived.Deep.RegionHeld3
import Derived.StillTailTactics
import Derived.Test.YtglkndoghnblcaaGreatOvc
import Derived.Deep.DeepCutAuto
import Derived.Test.YtglkndoghnblcaaGreatOvd
import Derived.Test.YtglkndoghnblcaaGreatOvg
import Derived.Test.YtglkndoghnblcaaGreatOvf
import Derived.Test.YtglkndoghnblcaaGreatOvh
import Derived.Test.YtglkndoghnblcaaGreatOve
import Derived.Test.YtglkndoghnblcaaGreatOvi
import Derived.Test.YtglkndoghnblcaaGreatOvb
namespace Go.Proofs.YtglkndoghnblcaaGreat
open Go.ChangeShapes Go.WideShapes Go.ChangeAt Go.RowKit
set_option linter.unusedVariables false
set_option linter.unusedSimpArgs false
/-- Number 'i' is not wanted: what it gives is undefined. -/
theorem tn {P : Program} {ops : Array Oper} {Q : Exit → Act → World → Prop} {md : Region.Mode} {S : World → Prop} (i : Nat) {oi : Oper} {fuel : Nat} {listed : Array Bool} {a a' : Act} {w : World}
    (hi : (ops.toList.drop i).head? = some oi) (h : wpAnyH P md ops Q S fuel (listed.setIfInBounds i true) a' w)
    (hy : YieldsIf P ops S oi undef a := by exact .inr ⟨by rfl, rfl⟩)
    (ha : a' = a.put oi.dst undef := by (simp only [Act.put, List.setIfInBounds_toArray, List.set_cons_zero, List.set_cons_succ]; rfl))
    (hb : (Region.noSelect ops && Region.free md ops listed i && (Region.ready md ops listed).contains i) = true := by kernel_rfl)
    (hQ : ∀ c a w, Q (.panic c) (a.put oi.dst undef) w → Q (.panic c) a w := by intro _ _ _ h; exact h) (hS : S w := by assumption) : wpAnyH P md ops Q S (fuel + 1) listed a w := tp i undef hi hy h ha hb hQ hS
/-- One that is ready. -/
theorem ar {P : Program} {ops : Array Oper} {Q : Exit → Act → World → Prop} {md : Region.Mode} {S : World → Prop} {fuel : Nat} {listed : Array Bool} {a : Act} {w : World} {i : Nat} {o : Oper} {rs : List Nat}
    (ho : (ops.toList.drop i).head? = some o)
    (h : ∀ (K' : Act → World → Prop), Shut (∀ (a : Act) (w : World), S w → (S w → wpAnyH P md ops Q S fuel (listed.setIfInBounds i true) a w) → K' a w) → if Region.wanted o (yielded ops a.tmps) = true then Oper.wp P o a w K' Q else K' (a.put o.dst undef) w)
    (t : AllReadyH P md ops Q S fuel listed a w rs) : AllReadyH P md ops Q S fuel listed a w (i :: rs) := AllReadyH.cons (by simpa [List.head?_drop] using ho) h t
/-- Just one is ready. -/
theorem a1 {P : Program} {ops : Array Oper} {Q : Exit → Act → World → Prop} {md : Region.Mode} {S : World → Prop} {fuel : Nat} {listed : Array Bool} {a : Act} {w : World} (i : Nat) {o : Oper}
    (ho : (ops.toList.drop i).head? = some o)
    (h : ∀ (K' : Act → World → Prop), Shut (∀ (a : Act) (w : World), S w → (S w → wpAnyH P md ops Q S fuel (listed.setIfInBounds i true) a w) → K' a w) → if Region.wanted o (yielded ops a.tmps) = true then Oper.wp P o a w K' Q else K' (a.put o.dst undef) w)
    (hr : Region.ready md ops listed = [i] := by kernel_rfl) : wpAnyH P md ops Q S (fuel + 1) listed a w := wpAnyH_ready hr (by simp) (ar ho h AllReadyH.nil)

theorem ret_int {k : IntKind} {a b : Int} (h : a = b) : Ending.returned (.int k a) = .returned (.int k b) := by rw [h]
/-- A row of numbers that came in. -/
def IsRow (k : IntKind) (w : World) (a : Option Addr) (len cap : Nat) (zs : List Int) : Prop :=
  (a = none ∧ len = 0 ∧ cap = 0 ∧ zs = []) ∨
  ∃ x, a = some x ∧ len ≤ cap ∧ cap ≤ maxLen ∧ zs.length = cap ∧ (∀ i, i < zs.length → w.cell? (x.add i) = some (.int k (zs.getD i 0))) ∧ ∀ n ∈ zs, (Lit.int k n).wf = true
theorem IsRow.ls {K : IntKind} {w : World} {a : Option Addr} {len cap : Nat} {zs : List Int} (h : IsRow K w a len cap zs) : Ls K w a cap (zs.take len) ∧ (zs.take len).length = len := by
  rcases h with ⟨rfl, rfl, rfl, rfl⟩ | ⟨y, rfl, hlc, _, hz, hcell, _⟩
  · exact ⟨Ls.nul _ _, rfl⟩
  · have hl : (zs.take len).length = len := by rw [List.length_take]; omega
    refine ⟨⟨fun k hk => ?_, fun e => (by cases e), by omega⟩, hl⟩
    have hk' : k < len ∧ k < zs.length := by simp at hk; omega
    obtain ⟨b, off, spot⟩ := y
    have hc0 := hcell 0 (by omega)
    have hspot : spot = none := by simpa [Addr.add] using World.cell?_spot hc0
    subst hspot
    have hc := hcell k hk'.2
    rw [addr_add] at hc
    exact ⟨b, off, rfl, by rw [hc]; simp [List.getD, List.getElem?_take, hk'.1]⟩
theorem IsRow.byt {w : World} {a : Option Addr} {len cap : Nat} {zs : List Int} (h : IsRow .u8 w a len cap zs) : Byt (zs.take len) := by
  rcases h with ⟨_, rfl, _, rfl⟩ | ⟨y, rfl, hlc, _, hz, hcell, hw⟩
  · intro x hx; simp at hx
  · intro x hx
    have := hw x (List.mem_of_mem_take hx)
    simpa [Lit.wf, IntKind.min, IntKind.max, IntKind.signed, IntKind.bits] using this
end Go.Proofs.YtglkndoghnblcaaGreat
namespace Go.Proofs.YtglkndoghnblcaaGreat
set_option linter.unusedVariables false
set_option linter.unusedSimpArgs false
/-- What was written is read. -/
theorem numR_W (rest : List Int) : ∀ (d k acc n : Nat), k + d = 9 → (0 < k → 0 < n) → n < 2 ^ (7 * d + 1) → numR k acc (numW n ++ rest) = some (acc + n * 128 ^ k, k + (numW n).length) := by
  intro d
  induction d with
  | zero =>
    intro k acc n hk hp hn
    have h1 : n ≤ 1 := by omega
    rw [numW_small (by omega)]
    show numR k acc ((n : Int) :: rest) = _
    unfold numR
    rw [if_neg (by omega), if_pos (by omega)]
    simp
  | succ d ih =>
    intro k acc n hk hp hn
    by_cases h : n ≤ 127
    · rw [numW_small h]
      show numR k acc ((n : Int) :: rest) = _
      unfold numR
      rw [if_neg (by omega), if_pos (by omega)]
      simp
    · rw [numW_big h]
      show numR k acc (((n % 128 + 128 : Nat) : Int) :: (numW (n / 128) ++ rest)) = _
      unfold numR
      rw [if_neg (by omega), if_neg (by omega), ih (k + 1) _ (n / 128) (by omega) (by omega) (by
        have : 2 ^ (7 * (d + 1) + 1) = 128 * 2 ^ (7 * d + 1) := by rw [show 7 * (d + 1) + 1 = 7 + (7 * d + 1) by omega, Nat.pow_add]
        omega)]
      have e : (((n % 128 + 128 : Nat) : Int).toNat - 128) = n % 128 := by omega
      rw [e, List.length_cons]
      have e2 : acc + n % 128 * 128 ^ k + n / 128 * 128 ^ (k + 1) = acc + n * 128 ^ k := by
        rw [Nat.pow_succ, show n / 128 * (128 ^ k * 128) = (128 * (n / 128)) * 128 ^ k by rw [Nat.mul_comm (128 ^ k) 128, ← Nat.mul_assoc, Nat.mul_comm (n / 128) 128], Nat.add_assoc, ← Nat.add_mul, Nat.mod_add_div]
      rw [e2, show k + 1 + (numW (n / 128)).length = k + ((numW (n / 128)).length + 1) by omega]
theorem numR_here (n : Nat) (hn : n < 18446744073709551616) (rest : List Int) : numR 0 0 (numW n ++ rest) = some (n, (numW n).length) := by
  have := numR_W rest 9 0 0 n (by omega) (by omega) (Nat.lt_of_lt_of_eq hn (by decide))
  rw [this]
  simp only [Nat.pow_zero, Nat.mul_one, Nat.zero_add]
theorem upP_W {most v : Nat} (hv : v ≤ most) (hm : most < 18446744073709551616) (r : List Int) : upP most (numW v ++ r) = some (v, r) := by
  unfold upP
  rw [numR_here v (by omega)]
  simp only [hv, if_true, List.drop_left]
theorem bytesP_W {most : Nat} {b : List Int} (hv : b.length ≤ most) (hm : most < 18446744073709551616) (r : List Int) : bytesP most (bytesW b ++ r) = some (b, r) := by
  unfold bytesP bytesW
  rw [List.append_assoc, upP_W hv hm]
  simp
theorem manyP_inv {α : Type} {one : List Int → Option (α × List Int)} {put : α → List Int} (h1 : ∀ L x s, (∀ y ∈ L, 0 ≤ y ∧ y ≤ 255) → one L = some (x, s) → L = put x ++ s) : ∀ (n : Nat) (L r : List Int) (xs : List α), (∀ y ∈ L, 0 ≤ y ∧ y ≤ 255) → manyP one n L = some (xs, r) → xs.length = n ∧ L = (xs.map put).flatten ++ r
  | 0, L, r, xs, _, h => by cases h; exact ⟨rfl, rfl⟩
  | n + 1, L, r, xs, hb, h => by
    unfold manyP at h
    cases ho : one L with
    | none => rw [ho] at h; cases h
    | some p =>
      obtain ⟨x, s⟩ := p
      rw [ho] at h
      simp only at h
      have e := h1 L x s hb ho
      have hs : ∀ y ∈ s, 0 ≤ y ∧ y ≤ 255 := fun y hy => hb y (by rw [e]; simp [hy])
      cases hm : manyP one n s with
      | none => rw [hm] at h; cases h
      | some q =>
        obtain ⟨ys, t⟩ := q
        rw [hm] at h
        cases h
        obtain ⟨k1, k2⟩ := manyP_inv h1 n s r ys hs hm
        refine ⟨by simp [k1], ?_⟩
        rw [e, k2]; simp
end Go.Proofs.YtglkndoghnblcaaGreat
namespace Go.Proofs.YtglkndoghnblcaaGreat
open Go.ChangeShapes Go.WideShapes Go.ChangeAt Go.RowKit
set_option linter.unusedVariables false
set_option linter.unusedSimpArgs false
/-- A reader of the reference's, in its block. -/
structure Rdq (W : World) (B : Nat) (ad : Option Addr) (cap n : Nat) (L : List Int) (at_ : Nat) : Prop where
  len : L.length = n
  c0 : W.cell? ⟨B, 0, none⟩ = some (.slice ad n cap)
  c1 : W.cell? ⟨B, 1, none⟩ = some (.int .i64 (at_ : Int))
  f1 : W.frozen? ⟨B, 1, none⟩ = false
  ls : ∀ W', (0 < n → ∀ k b off, ad = some ⟨b, off, none⟩ → W'.cell? ⟨b, off + k, none⟩ = W.cell? ⟨b, off + k, none⟩) → Ls .u8 W' ad cap L
  le : at_ ≤ n
  apart : 0 < n → ∀ b off, ad = some ⟨b, off, none⟩ → b < B
theorem Rdq.lt {W : World} {B : Nat} {ad : Option Addr} {cap n : Nat} {L : List Int} {p : Nat} (h : Rdq W B ad cap n L p) : B < W.heap.size := World.block_lt_of_cell? W _ h.c0
theorem Rdq.here {W : World} {B : Nat} {ad : Option Addr} {cap n : Nat} {L : List Int} {p : Nat} (h : Rdq W B ad cap n L p) : Ls .u8 W ad cap L := h.ls W fun _ _ _ _ _ => rfl
theorem Rdq.below1 {W W' : World} {B : Nat} {ad : Option Addr} {cap n : Nat} {L : List Int} {p : Nat} (h : Rdq W B ad cap n L p) (b : Below (B + 1) W W') : Rdq W' B ad cap n L p := by
  have hl : B < B + 1 := by omega
  refine ⟨h.len, (b.cell (p := ⟨B, 0, none⟩) hl).trans h.c0, (b.cell (p := ⟨B, 1, none⟩) hl).trans h.c1, (b.frozen (p := ⟨B, 1, none⟩) hl).trans h.f1, fun W2 h2 => ?_, h.le, h.apart⟩
  refine h.ls W2 fun h0 k b' off e => ?_
  rw [h2 h0 k b' off e]
  exact b.cell (p := ⟨b', off + k, none⟩) (by have := h.apart h0 b' off e; simp; omega)
theorem Rdq.below {W W' : World} {B : Nat} {ad : Option Addr} {cap n : Nat} {L : List Int} {p : Nat} (h : Rdq W B ad cap n L p) (b : Below W.heap.size W W') : Rdq W' B ad cap n L p := h.below1 (b.mono h.lt)
theorem Rdq.move {W : World} {B : Nat} {ad : Option Addr} {cap n : Nat} {L : List Int} {p : Nat} (h : Rdq W B ad cap n L p) (q : Nat) (hq : q ≤ n) : Rdq (W.setCell ⟨B, 1, none⟩ (.int .i64 (q : Int))) B ad cap n L q := by
  refine ⟨h.len, ?_, World.cell?_setCell_same W _ _ h.c1, by rw [World.frozen?_setCell]; exact h.f1, fun W2 h2 => ?_, hq, h.apart⟩
  · rw [World.cell?_setCell_other W ⟨B, 1, none⟩ ⟨B, 0, none⟩ _ (fun q => by simp at q)]; exact h.c0
  · refine h.ls W2 fun h0 k b' off e => ?_
    rw [h2 h0 k b' off e]
    have := h.apart h0 b' off e
    exact World.cell?_setCell_other W ⟨B, 1, none⟩ ⟨b', off + k, none⟩ _ (fun q => by simp at q <;> omega)
theorem Rdq.drewN {W : World} {B : Nat} {ad : Option Addr} {cap n : Nat} {L : List Int} {p : Nat} (h : Rdq W B ad cap n L p) (m : Nat) : Rdq (W.drewN m) B ad cap n L p := h.below (below_drewN (Below.refl _ _) _)
set_option maxHeartbeats 1000000 in
theorem qleft_law {W : World} {B : Nat} {ad : Option Addr} {cap n : Nat} {L : List Int} {p : Nat} (h : Rdq W B ad cap n L p) (hn : n ≤ 1000000) :
    Calls Tryz.prog 90 #[.pointer (some ⟨B, 0, none⟩)] W fun r w' => r = .returned (.int .i64 ((n - p : Nat) : Int)) ∧ Below W.heap.size W w' := by
  have c0 := h.c0
  have c1 := h.c1
  have hle := h.le
  have H := Lib.hid h
  have hi : (n : Int) ≤ 1000000 := by omega
  have hj : (p : Int) ≤ (n : Int) := by omega
  have e : ((n - p : Nat) : Int) = (n : Int) - (p : Int) := by omega
  rw [e]
  clear h e hle
  go_enter Tryz.func90, Tryz.ntmps90
  go_wp2_with fail
  go_quiet (fail)
  go_wp2_with fail
  go_ret
  exact ⟨rfl, below_drewN (Below.refl _ _) _⟩
theorem grpN (acc c k : Nat) (ha : acc < 128 ^ k) (hk : k ≤ 9) (hc : c < 256) (h9 : k = 9 → c ≤ 1) :
    ∃ y : Nat, IntKind.u64.wrap ((c : Int) % 128 * 2 ^ (7 * k)) = (y : Int) ∧ IntKind.u64.wrap ((acc : Int) + (y : Int)) = ((acc + y : Nat) : Int) ∧ y = c % 128 * 128 ^ k := by
  have e2 : (2 : Nat) ^ (7 * k) = 128 ^ k := by rw [Nat.pow_mul]
  have hp9 : (128 : Nat) ^ 9 = 9223372036854775808 := by decide
  have hp8 : (128 : Nat) ^ 8 = 72057594037927936 := by decide
  have hlt : c % 128 * 128 ^ k ≤ 9223372036854775808 := by
    by_cases h : k = 9
    · subst h
      rw [hp9]
      have := h9 rfl
      have : c % 128 * 9223372036854775808 ≤ 1 * 9223372036854775808 := Nat.mul_le_mul_right _ (by omega)
      omega
    · have h8 : 128 ^ k ≤ 128 ^ 8 := Nat.pow_le_pow_right (by decide) (by omega)
      have : c % 128 * 128 ^ k ≤ 127 * 128 ^ 8 := Nat.mul_le_mul (by omega) h8
      rw [hp8] at this
      omega
  have hacc : acc < 9223372036854775808 := by
    have : 128 ^ k ≤ 128 ^ 9 := Nat.pow_le_pow_right (by decide) hk
    rw [hp9] at this
    omega
  refine ⟨c % 128 * 128 ^ k, ?_, ?_, rfl⟩
  · have e3 : (c : Int) % 128 * 2 ^ (7 * k) = ((c % 128 * 128 ^ k : Nat) : Int) := by rw [← e2]; push_cast; rfl
    rw [e3, IntKind.wrap_u64]; omega
  · rw [IntKind.wrap_u64]; omega
/-- What the document's Number answers. -/
def NumQ (W : World) (B : Nat) (ad : Option Addr) (cap n : Nat) (L : List Int) (p : Nat) (r : Ending) (w' : World) : Prop :=
  ((numR 0 0 (L.drop p) = none ∧ r = .returned (.tuple #[.int .u64 0, .int .i64 4]) ∧ Rdq w' B ad cap n L p) ∨
    ∃ v j : Nat, numR 0 0 (L.drop p) = some (v, j) ∧ v < 18446744073709551616 ∧ p + j ≤ n ∧ r = .returned (.tuple #[.int .u64 (v : Int), .int .i64 0]) ∧ Rdq w' B ad cap n L (p + j)) ∧ W.grownBy w' (some B)
set_option maxRecDepth 100000 in
set_option maxHeartbeats 4000000 in
/-- The document's Number (141). -/
theorem qnumber {W : World} {B : Nat} {ad : Option Addr} {cap n : Nat} {L : List Int} {p : Nat} (h : Rdq W B ad cap n L p) (hn : n ≤ 1000000) (hB : Byt L) :
    Calls Tryz.prog 141 #[.pointer (some ⟨B, 0, none⟩)] W (NumQ W B ad cap n L p) := by
  have H := Lib.hid h
  have HB := Lib.hid hB
  have hni : (n : Int) ≤ 1000000 := by omega
  have hpn := h.le
  have hpi : (p : Int) ≤ (n : Int) := by omega
  obtain ⟨D, hD⟩ : ∃ D, L.drop p = D := ⟨_, rfl⟩
  have HD := Lib.hid hD
  have HDB := Lib.hid (show Byt D from by rw [← hD]; exact hB.drop p)
  have HDL := Lib.hid (show D.length = n - p by rw [← hD, List.length_drop, h.len])
  have HDK := Lib.hid (fun k (hk : p + k < n) => (show D.drop k = L.getD (p + k) 0 :: D.drop (k + 1) by
    have h1 := drop_cons (D := D) (k := k) (by rw [← hD, List.length_drop, h.len]; omega)
    rw [h1]
    congr 1
    rw [← hD, List.getD_eq_getElem?_getD, List.getElem?_drop, List.getD_eq_getElem?_getD]))
  unfold NumQ
  rw [hD]
  clear h hB hD
  go_enter Tryz.func141, Tryz.ntmps141
  go_wp2_with fail
  go_loopw [4, 5] (fun v i wr => ∃ (k acc : Nat), k ≤ 9 ∧ p + k ≤ n ∧ v = .int .u64 (acc : Int) ∧ i = .int .i64 (k : Int) ∧ Hid (acc < 128 ^ k ∧ numR 0 0 D = numR k acc (D.drop k)) ∧ Below W.heap.size W wr) (fun _ i _ => 10 - (intOf i).toNat)
  case atStart => exact ⟨0, 0, by omega, by omega, rfl, rfl, Lib.hid ⟨by decide, rfl⟩, Below.refl _ _⟩
  case round =>
    obtain ⟨k, acc, hk, hkn, rfl, rfl, hx, BW⟩ := hrel
    have hR := H.out.below BW
    have e0 := hR.c0
    have e1 := hR.c1
    have hki : (k : Int) ≤ 9 := by omega
    have hkni : (p : Int) + (k : Int) ≤ (n : Int) := by omega
    have hw1 : IntKind.i64.wrap ((p : Int) + (k : Int)) = (p : Int) + (k : Int) := by rw [IntKind.wrap_i64]; omega
    have hw0 : 0 ≤ (p : Int) + (k : Int) := by omega
    have hw2 : ((p : Int) + (k : Int)).toNat = p + k := by omega
    have g1 : (k : Int) < 10 := by omega
    have g3 : decide ((k : Int) < 10) = true := by simpa using g1
    by_cases hpk : p + k < n
    · have g2 : (p : Int) + (k : Int) < (n : Int) := by omega
      obtain ⟨b1, o1, ea, d1⟩ := hR.here.get (p + k) (by rw [hR.len]; exact hpk)
      subst ea
      obtain ⟨cb0, cb1⟩ := HB.out.get (p + k) (by rw [hR.len]; exact hpk)
      have hdk := HDK.out k hpk
      obtain ⟨c, hcb⟩ : ∃ c : Nat, L.getD (p + k) 0 = (c : Int) := ⟨(L.getD (p + k) 0).toNat, by omega⟩
      rw [hcb] at d1 cb0 cb1 hdk
      have hc256 : c < 256 := by omega
      have HN := Lib.hid (show numR 0 0 D = (if (k = 9 ∧ (1 : Int) < (c : Int)) ∨ (0 < k ∧ (c : Int) = 0) then none else if (c : Int) < 128 then some (acc + c * 128 ^ k, k + 1) else numR (k + 1) (acc + (c - 128) * 128 ^ k) (D.drop (k + 1))) by
        rw [hx.out.2, hdk, numR_cons, Int.toNat_natCast])
      have HR := Lib.hid hR
      have BB := Lib.hid BW
      clear hcb hR BW hdk
      have r1 := HR.out.c1
      have g1' := HR.out.f1
      by_cases hz : 0 < k ∧ c = 0
      · have k1 : (0 : Int) < (k : Int) := by omega
        have k2 : ((c : Int) == 0) = true := by simp; omega
        have k2' : (c == 0) = true := by simp; omega
        have k3 : ¬ (1 : Int) < (c : Int) := by omega
        have HNO := Lib.hid (show numR 0 0 D = none by rw [HN.out, if_pos (Or.inr ⟨hz.1, by omega⟩)])
        clear hz
        obtain ⟨bb, hbb⟩ : ∃ bb, ((k : Int) == 9) = bb := ⟨_, rfl⟩
        have hbb' : (k == 9) = bb := by rw [← hbb]; rw [Bool.eq_iff_iff]; simp; omega
        cases bb
        all_goals
          go_wp2_with fail
          go_quiet (fail)
          go_wp2_with fail
          go_quiet (fail)
          go_wp2_with fail
          try rw [Exit.noGoto_ret]
          go_ret2
          exact ⟨.inl ⟨HNO.out, rfl, HR.out.drewN _⟩, oth_below B (below_drewN BB.out _)⟩
      by_cases h9 : k = 9 ∧ 1 < c
      · have k1 : (0 : Int) < (k : Int) := by omega
        have k2 : ((c : Int) == 0) = false := by simp; omega
        have k2' : (c == 0) = false := by simp; omega
        have k3 : ((k : Int) == 9) = true := by simp; omega
        have k3' : (k == 9) = true := by simp; omega
        have k4 : (1 : Int) < (c : Int) := by omega
        have HNO := Lib.hid (show numR 0 0 D = none by rw [HN.out, if_pos (Or.inl ⟨h9.1, by omega⟩)])
        clear hz h9
        go_wp2_with fail
        go_quiet (fail)
        go_wp2_with fail
        go_quiet (fail)
        go_wp2_with fail
        try rw [Exit.noGoto_ret]
        go_ret2
        exact ⟨.inl ⟨HNO.out, rfl, HR.out.drewN _⟩, oth_below B (below_drewN BB.out _)⟩
      obtain ⟨y, y1, y2, y3⟩ := grpN acc c k hx.out.1 hk hc256 (fun e => by omega)
      have HY3 := Lib.hid y3
      have HNE := Lib.hid (show ¬ ((k = 9 ∧ (1 : Int) < (c : Int)) ∨ (0 < k ∧ (c : Int) = 0)) by omega)
      have hp2 : IntKind.i64.wrap ((p : Int) + (k : Int) + 1) = (p : Int) + (k : Int) + 1 := by rw [IntKind.wrap_i64]; omega
      have hp3 : IntKind.i64.wrap ((k : Int) + 1) = (k : Int) + 1 := by rw [IntKind.wrap_i64]; omega
      have HPA := Lib.hid (show (p : Int) + (k : Int) + 1 = ((p + (k + 1) : Nat) : Int) by omega)
      have hmv := Lib.hid (fun w (hr : Rdq w B (some ⟨b1, o1, none⟩) cap n L p) => hr.move (p + (k + 1)) (by omega))
      have HPN := Lib.hid (show p + (k + 1) ≤ n by omega)
      have h70 : (0 : Int) ≤ 7 * (k : Int) := by omega
      have h7k : (7 * (k : Int)).toNat = 7 * k := by omega
      have h7w : IntKind.i64.wrap (7 * (k : Int)) = 7 * (k : Int) := by rw [IntKind.wrap_i64]; omega
      have K := Lib.hid (show (k = 0 ∧ ¬ (0 : Int) < (k : Int) ∧ ((k : Int) == 9) = false ∧ (k == 9) = false) ∨ (0 < k ∧ k < 9 ∧ (0 : Int) < (k : Int) ∧ ((c : Int) == 0) = false ∧ (c == 0) = false ∧ ((k : Int) == 9) = false ∧ (k == 9) = false) ∨ (k = 9 ∧ (0 : Int) < (k : Int) ∧ ((c : Int) == 0) = false ∧ (c == 0) = false ∧ ((k : Int) == 9) = true ∧ (k == 9) = true ∧ ¬ (1 : Int) < (c : Int)) by
        by_cases e0 : k = 0
        · left; exact ⟨e0, by omega, by simp; omega, by simp; omega⟩
        · have hc : ((c : Int) == 0) = false := by simp; exact fun h => hz ⟨by omega, by omega⟩
          have hc' : (c == 0) = false := by simp; exact fun h => hz ⟨by omega, by omega⟩
          right
          by_cases e9 : k = 9
          · right; exact ⟨e9, by omega, hc, hc', by simp; omega, by simp; omega, fun h => h9 ⟨e9, by omega⟩⟩
          · left; exact ⟨by omega, by omega, by omega, hc, hc', by simp; omega, by simp; omega⟩)
      clear y3
      by_cases h128 : c < 128
      · have h128i : (c : Int) < 128 := by omega
        have HYES := Lib.hid (show numR 0 0 D = some (acc + y, k + 1) by rw [HN.out, if_neg HNE.out, if_pos h128i, HY3.out, Nat.mod_eq_of_lt h128])
        have HYB := Lib.hid (numR_bd D 0 0 (acc + y) (k + 1) HDB.out (by omega) (by decide) HYES.out)
        clear hz h9
        rcases K.out with ⟨q0, q1, q2, q2'⟩ | ⟨q0, q00, q1, q2, q2', q3, q3'⟩ | ⟨q0, q1, q2, q2', q3, q3', q4⟩
        all_goals
          try clear q0
          try clear q00
          go_wp2_with fail
          go_quiet (fail)
          go_wp2_with fail
          go_quiet (fail)
          go_wp2_with fail
          try rw [Exit.noGoto_ret]
          go_ret2
          refine ⟨.inr ⟨acc + y, k + 1, HYES.out, HYB.out.1, HPN.out, rfl, ?_⟩, oth_trans (oth_below B (below_drewN BB.out _)) (oth_set _ _ _ _)⟩
          rw [HPA.out]
          exact hmv.out _ (HR.out.drewN _)
      · have h128i : ¬ (c : Int) < 128 := by omega
        have h9' : k ≠ 9 := by omega
        have HNX := Lib.hid (show acc + y < 128 ^ (k + 1) ∧ numR 0 0 D = numR (k + 1) (acc + y) (D.drop (k + 1)) by
          have ed : c % 128 = c - 128 := by omega
          refine ⟨?_, by rw [HN.out, if_neg HNE.out, if_neg h128i, HY3.out, ed]⟩
          rw [HY3.out, Nat.pow_succ]
          have h1 := hx.out.1
          have : c % 128 * 128 ^ k ≤ 127 * 128 ^ k := Nat.mul_le_mul_right _ (by omega)
          omega)
        clear hz h9
        rcases K.out with ⟨q0, q1, q2, q2'⟩ | ⟨q0, q00, q1, q2, q2', q3, q3'⟩ | ⟨q0, q1, q2, q2', q3, q3', q4⟩
        · clear q0
          go_wp2_with fail
          go_quiet (fail)
          go_wp2_with fail
          go_quiet (fail)
          go_wp2_with fail
          go_roundw
          case rel => exact ⟨k + 1, acc + y, by omega, by omega, rfl, by go_num, HNX, below_drewN BB.out _⟩
          case measure => simp [intOf]; omega
        · clear q0 q00
          go_wp2_with fail
          go_quiet (fail)
          go_wp2_with fail
          go_quiet (fail)
          go_wp2_with fail
          go_roundw
          case rel => exact ⟨k + 1, acc + y, by omega, by omega, rfl, by go_num, HNX, below_drewN BB.out _⟩
          case measure => simp [intOf]; omega
        · exact absurd h9' (by omega)
    · have HR := Lib.hid hR
      have BB := Lib.hid BW
      have HNO := Lib.hid (show numR 0 0 D = none by rw [hx.out.2, List.drop_of_length_le (by rw [HDL.out]; omega)]; rfl)
      have g2 : ¬ (p : Int) + (k : Int) < (n : Int) := by omega
      clear hR BW
      go_wp2_with fail
      go_quiet (fail)
      go_wp2_with fail
      try rw [Exit.noGoto_ret]
      go_ret2
      exact ⟨.inl ⟨HNO.out, rfl, HR.out.drewN _⟩, oth_below B (below_drewN BB.out _)⟩
/-- The document's reader, of which so many bytes are left. -/
def RqS (W : World) (B : Nat) (R : List Int) : Prop := ∃ ad cap n L p, Rdq W B ad cap n L p ∧ L.drop p = R ∧ n ≤ 1000000 ∧ Byt L
theorem RqS.below {W W' : World} {B : Nat} {R : List Int} (h : RqS W B R) (b : Below W.heap.size W W') : RqS W' B R := by
  obtain ⟨ad, cap, n, L, p, h1, h2, h3, h4⟩ := h
  exact ⟨ad, cap, n, L, p, h1.below b, h2, h3, h4⟩
theorem RqS.below1 {W W' : World} {B : Nat} {R : List Int} (h : RqS W B R) (b : Below (B + 1) W W') : RqS W' B R := by
  obtain ⟨ad, cap, n, L, p, h1, h2, h3, h4⟩ := h
  exact ⟨ad, cap, n, L, p, h1.below1 b, h2, h3, h4⟩
theorem RqS.byt {W : World} {B : Nat} {R : List Int} (h : RqS W B R) : Byt R := by
  obtain ⟨ad, cap, n, L, p, h1, rfl, h3, h4⟩ := h
  exact h4.drop p
theorem RqS.lt {W : World} {B : Nat} {R : List Int} (h : RqS W B R) : B < W.heap.size := by
  obtain ⟨ad, cap, n, L, p, h1, h2, h3, h4⟩ := h
  exact h1.lt
theorem leftq_law {W : World} {B : Nat} {R : List Int} (h : RqS W B R) (m : Nat) (hm : R.length = m) :
    Calls Tryz.prog 90 #[.pointer (some ⟨B, 0, none⟩)] W fun r w' => r = .returned (.int .i64 (m : Int)) ∧ Below W.heap.size W w' := by
  obtain ⟨ad, cap, n, L, p, h1, rfl, h3, h4⟩ := h
  have e : n - p = m := by rw [← hm, List.length_drop, h1.len]
  rw [← e]
  exact qleft_law h1 h3
/-- What the document's Bytes answers. -/
def BytQ (W : World) (B : Nat) (R : List Int) (most : Nat) (r : Ending) (w' : World) : Prop :=
  ((bytesP most R = none ∧ (∃ e : Int, Er e ∧ r = .returned (.tuple #[.slice none 0 0, .int .i64 e])) ∧ RqS w' B R) ∨
    ∃ b R' a c, bytesP most R = some (b, R') ∧ r = .returned (.tuple #[.slice a b.length c, .int .i64 0]) ∧ w'.ownsRow W.heap.size 5 1 (.slice a b.length c) b.length (iv .u8 b) ∧ RqS w' B R') ∧ W.grownBy w' (some B)
set_option maxRecDepth 100000 in
set_option maxHeartbeats 4000000 in
/-- The document's Bytes (104). -/
theorem bytesq_law {W : World} {B : Nat} {R : List Int} (h : RqS W B R) (most : Nat) (hm : most ≤ 1000000) :
    Calls Tryz.prog 104 #[.pointer (some ⟨B, 0, none⟩), .int .i64 (most : Int)] W (BytQ W B R most) := by
  obtain ⟨ad, cap, n, L, p, h1, h2, h3, h4⟩ := h
  have HQ := Lib.hid (qnumber h1 h3 h4)
  have HR := Lib.hid h2
  have HB := Lib.hid (And.intro h3 h4)
  have c1 := h1.c1
  have hp := h1.le
  have hni : (n : Int) ≤ 1000000 := by omega
  have hwm : IntKind.u64.wrap (most : Int) = (most : Int) := by rw [IntKind.wrap_u64]; omega
  clear h1 h2 h4
  go_enter Tryz.func104, Tryz.ntmps104
  go_wp2_with fail
  refine HQ.out.mono ?_
  rintro r w1 ⟨⟨e1, rfl, hr⟩ | ⟨v, j, e1, hv, hj, rfl, hr⟩, hg⟩
  · have HX := Lib.hid (show bytesP most R = none by unfold bytesP upP; rw [← HR.out, e1])
    have f1 := hr.f1
    have q1 := hr.c1
    have HM := Lib.hid (hr.move p hp)
    have HG := Lib.hid (oth_trans hg (oth_set w1 B 1 (.int .i64 (p : Int))))
    clear e1 hr hg c1 HQ
    go_wp2_with fail
    go_ret2
    exact ⟨.inl ⟨HX.out, ⟨4, .inr rfl, rfl⟩, ad, cap, n, L, p, HM.out, HR.out, HB.out.1, HB.out.2⟩, HG.out⟩
  obtain ⟨q, hq⟩ : ∃ q, p + j = q := ⟨_, rfl⟩
  rw [hq] at hr hj
  have HU := Lib.hid (show upP most R = if v ≤ most then some (v, L.drop q) else none by unfold upP; rw [← HR.out, e1]; simp only [List.drop_drop, hq])
  rcases Nat.lt_or_ge most v with hgt | hle
  · have hle : ¬ v ≤ most := by omega
    have HX := Lib.hid (show bytesP most R = none by unfold bytesP; rw [HU.out, if_neg hle])
    have d1 : (most : Int) < (v : Int) := by omega
    have f1 := hr.f1
    have q1 := hr.c1
    have HM := Lib.hid (hr.move p hp)
    have HG := Lib.hid (oth_trans hg (oth_set w1 B 1 (.int .i64 (p : Int))))
    clear e1 hr hg c1 HQ hle hgt
    go_wp2_with fail
    go_ret2
    exact ⟨.inl ⟨HX.out, ⟨3, .inl rfl, rfl⟩, ad, cap, n, L, p, HM.out, HR.out, HB.out.1, HB.out.2⟩, HG.out⟩
  have d1 : ¬ (most : Int) < (v : Int) := by omega
  obtain ⟨m, hm2⟩ : ∃ m, n - q = m := ⟨_, rfl⟩
  have hlm : (L.drop q).length = m := by rw [List.length_drop, hr.len, hm2]
  have HLF := Lib.hid (by have := qleft_law hr h3; rw [hm2] at this; exact this)
  have hwl : IntKind.u64.wrap (m : Int) = (m : Int) := by rw [IntKind.wrap_u64]; omega
  have H1 := Lib.hid hr
  have G1 := Lib.hid hg
  rcases Nat.lt_or_ge m v with hgt | hfit
  · have hfit : ¬ v ≤ m := by omega
    have HX := Lib.hid (show bytesP most R = none by unfold bytesP; rw [HU.out, if_pos hle]; simp only; rw [if_neg (by rw [hlm]; exact hfit)])
    have d2 : (m : Int) < (v : Int) := by omega
    clear e1 hr hg c1 HQ hle hfit hlm hm2 hgt
    go_wp2_with fail
    refine HLF.out.mono ?_
    rintro r w2 ⟨rfl, hb2⟩
    have hr2 := H1.out.below hb2
    have f1 := hr2.f1
    have q1 := hr2.c1
    have HM := Lib.hid (hr2.move p hp)
    have HG := Lib.hid (oth_trans (oth_trans G1.out (oth_below B hb2)) (oth_set w2 B 1 (.int .i64 (p : Int))))
    clear hr2 hb2
    go_wp2_with fail
    go_ret2
    exact ⟨.inl ⟨HX.out, ⟨4, .inr rfl, rfl⟩, ad, cap, n, L, p, HM.out, HR.out, HB.out.1, HB.out.2⟩, HG.out⟩
  have d2 : ¬ (m : Int) < (v : Int) := by omega
  obtain ⟨s, hs⟩ : ∃ s, q + v = s := ⟨_, rfl⟩
  have hsn : s ≤ n := by omega
  have HX := Lib.hid (show bytesP most R = some ((L.drop q).take v, L.drop s) by unfold bytesP; rw [HU.out, if_pos hle]; simp only; rw [if_pos (by rw [hlm]; exact hfit), List.drop_drop, hs])
  have HVL := Lib.hid (show ((L.drop q).take v).length = v by rw [List.length_take, hlm]; omega)
  have hwv : IntKind.i64.wrap (v : Int) = (v : Int) := by rw [IntKind.wrap_i64]; omega
  have hadd : IntKind.i64.wrap ((q : Int) + (v : Int)) = (s : Int) := by rw [IntKind.wrap_i64]; omega
  have hsub : IntKind.i64.wrap ((s : Int) - (v : Int)) = (q : Int) := by rw [IntKind.wrap_i64]; omega
  have HQS := Lib.hid (show q ≤ s ∧ s - q = v by omega)
  have hvs : v ≤ 1000000 := by omega
  clear e1 hr hg c1 HQ hle hfit hlm hm2 hs
  go_wp2_with fail
  refine HLF.out.mono ?_
  rintro r w2 ⟨rfl, hb2⟩
  have h2 := H1.out.below hb2
  have e1 := h2.c1
  have f1 := h2.f1
  have H2 := Lib.hid h2
  have G2 := Lib.hid (oth_trans G1.out (oth_below B hb2))
  clear h2 hb2
  go_upto_region 11 with (fail)
  have h4 := H2.out.move s hsn
  have g4 := oth_trans G2.out (oth_set w2 B 1 (.int .i64 (s : Int)))
  clear e1 f1
  generalize w2.setCell ⟨B, 1, none⟩ (.int .i64 (s : Int)) = W4 at h4 g4 ⊢
  obtain ⟨a', c', s', l'⟩ := h4.here.mid eltB n q s h4.len HQS.out.1 hsn
  rw [HQS.out.2] at s' l'
  have e0 := h4.c0
  have e1 := h4.c1
  have H4 := Lib.hid h4
  have G4 := Lib.hid g4
  have L4 := Lib.hid (show Ls .u8 W4.drew a' c' ((L.drop q).take v) from l'.drew)
  clear h4 g4 l'
  have hmx : Tryz.prog.follows .mixedOrders = true := by kernel_rfl
  go_still_tail 16, (by kernel_rfl)
  change wpList _ _ _ _ _ W4.drew
  have B5 : Below W4.heap.size W4 W4.drew := (Below.refl _ _).drew
  have H5 := Lib.hid (H4.out.below B5)
  have G5 := Lib.hid (oth_trans G4.out (oth_below B B5))
  clear B5 s' e0 e1 hsub
  generalize W4.drew = W5 at L4 H5 G5 ⊢
  go_wp2_with (at_builtin; refine append_ls eltB rfl (.const (.slice none 0 0)) (.tmp 67) rfl W5.heap.size _ 0 [] rfl (World.ownsRow_nil _ _ _ _) _ _ v _ HVL.out rfl L4.out (by omega) (Nat.le_refl _) ?_)
  intro v6 w6 ho hg6
  have B6 : Below W5.heap.size W5 w6 := (Below.refl W5.heap.size W5).grown hg6 (Nat.le_refl _) (fun j hj => by cases hj)
  have ho2 : w6.ownsRow W5.heap.size 5 1 v6 v (iv .u8 ((L.drop q).take v)) := by simpa using ho
  obtain ⟨a6, c6, rfl, _⟩ := own_ls ho2 HVL.out
  have hsz : W.heap.size ≤ W5.heap.size := G5.out.size
  have HO := Lib.hid (own_base hsz ho2)
  have H6 := Lib.hid (H5.out.below B6)
  have G6 := Lib.hid (oth_trans G5.out (oth_below B B6))
  clear ho ho2 hg6 B6
  go_wp2_with fail
  go_ret2
  exact ⟨.inr ⟨_, _, a6, c6, HX.out, by rw [HVL.out]; rfl, by rw [HVL.out]; exact HO.out, ad, cap, n, L, s, H6.out, rfl, HB.out.1, HB.out.2⟩, G6.out⟩
theorem mayR_no {R : List P1} (h : allB R = false) : mayR R = false := by simp [mayR, h]
theorem mayR_big {R : List P1} {n : Nat} (hn : R.length = n) (h : 3 < n) : mayR R = false := by
  have : mayR R ≠ true := fun e => by have := ((mayR_iff R).1 e).2.2; omega
  simpa using this
theorem mayR_none {R : List P1} {n : Nat} (hn : R.length = n) (h : n < 1) : mayR R = false := by
  have : mayR R ≠ true := fun e => by have := ((mayR_iff R).1 e).2.1; omega
  simpa using this
set_option maxRecDepth 100000 in
set_option maxHeartbeats 1000000 in
theorem refmay_law (a : Option Addr) (R : List P1) (n cap : Nat) (hn : R.length = n) (w : World) (hR : RdR w a R) :
    Calls Tryz.prog 72 #[.slice a n cap] w fun r w' => r = .returned (.bool (mayR R)) ∧ w = w' := by
  have HR := Lib.hid hR
  have HN := Lib.hid hn
  clear hR hn
  go_enter Tryz.func72, Tryz.ntmps72
  go_wp2_with fail
  go_loopw [3] (fun i wr => ∃ k : Nat, k ≤ n ∧ k ≤ 4 ∧ i = .int .i64 k ∧ (∀ j < k, ∀ p, R[j]? = some p → p.bs.length ≤ 24) ∧ w = wr) (fun i _ => n - (intOf i).toNat)
  case atStart => exact ⟨0, by omega, by omega, rfl, fun j hj => absurd hj (by omega), rfl⟩
  case round =>
    obtain ⟨k, hk, hk4, rfl, hpre, rfl⟩ := hrel
    have HP := Lib.hid hpre
    clear hpre
    by_cases hlt : k < n
    · have hkl : (k : Int) < (n : Int) := by omega
      by_cases h4 : k < 4
      · have hk4l : (k : Int) < 4 := by omega
        obtain ⟨p, hp⟩ : ∃ p, R[k]? = some p := ⟨_, List.getElem?_eq_getElem (by rw [HN.out]; exact hlt)⟩
        obtain ⟨b1, o1, e1, c1, l1⟩ := HR.out k p hp
        subst e1
        have c2 : w.cell? ⟨b1, o1 + k, none⟩ = some (.slice p.ad p.bs.length p.cap) := c1
        obtain ⟨m, hm⟩ : ∃ m, p.bs.length = m := ⟨_, rfl⟩
        rw [hm] at c2
        have HM := Lib.hid hm
        have HPP := Lib.hid hp
        clear c1 hp hm l1
        by_cases hm2 : 24 < m
        · have hml : (24 : Int) < (m : Int) := by omega
          have HA := Lib.hid (mayR_no (allB_not HPP.out (by rw [HM.out]; omega)))
          go_wp2_with fail
          go_ret
          exact ⟨ret_bool HA.out.symm, rfl⟩
        · have hml : ¬ (24 : Int) < (m : Int) := by omega
          go_wp2_with fail
          go_roundw
          case rel => exact ⟨k + 1, by omega, by omega, by go_num, jstep HP.out (fun p' hp' => by have := HPP.out; rw [hp'] at this; cases this; have := HM.out; omega), trivial⟩
          case measure => simp [intOf]; omega
      · have hk4l : ¬ (k : Int) < 4 := by omega
        have HA := Lib.hid (mayR_big HN.out (by omega))
        have h1 : (1 : Int) ≤ (n : Int) := by omega
        have h3 : ¬ (n : Int) ≤ 3 := by omega
        go_wp2_with fail
        go_ret
        exact ⟨ret_bool HA.out.symm, rfl⟩
    · have hkl : ¬ (k : Int) < (n : Int) := by omega
      by_cases h1 : 1 ≤ n
      · have h1i : (1 : Int) ≤ (n : Int) := by omega
        by_cases h3 : n ≤ 3
        · have h3i : (n : Int) ≤ 3 := by omega
          have HA := Lib.hid (show mayR R = true from (mayR_iff R).2 ⟨fun p hp => by
            obtain ⟨j, hj, e⟩ := List.mem_iff_getElem.1 hp
            exact HP.out j (by have := HN.out; omega) p (by rw [List.getElem?_eq_getElem hj, e]), by have := HN.out; omega, by have := HN.out; omega⟩)
          go_wp2_with fail
          go_ret
          exact ⟨ret_bool HA.out.symm, rfl⟩
        · have h3i : ¬ (n : Int) ≤ 3 := by omega
          have HA := Lib.hid (mayR_big HN.out (by omega))
          go_wp2_with fail
          go_ret
          exact ⟨ret_bool HA.out.symm, rfl⟩
      · have h1i : ¬ (1 : Int) ≤ (n : Int) := by omega
        have HA := Lib.hid (mayR_none HN.out (by omega))
        go_wp2_with fail
        go_ret
        exact ⟨ret_bool HA.out.symm, rfl⟩
/-- The document's MayKey (71). -/
theorem rmaykey_law (a : Option Addr) (n cap : Nat) (w : World) : Calls Tryz.prog 71 #[.slice a n cap] w fun r w' => r = .returned (.bool (mayK n)) ∧ w = w' := by
  unfold mayK
  rcases (show n < 1 ∨ (1 ≤ n ∧ n ≤ 32) ∨ (1 ≤ n ∧ ¬ n ≤ 32) by omega) with h | ⟨h1, h2⟩ | ⟨h1, h2⟩
  · rw [decide_eq_false (by omega)]
    have hi : ¬ (1 : Int) ≤ (n : Int) := by omega
    go_enter Tryz.func71, Tryz.ntmps71
    go_wp2
    go_ret
    exact ⟨rfl, rfl⟩
  · rw [decide_eq_true (by omega)]
    have hi : (1 : Int) ≤ (n : Int) := by omega
    have hj : (n : Int) ≤ 32 := by omega
    go_enter Tryz.func71, Tryz.ntmps71
    go_wp2
    go_ret
    exact ⟨rfl, rfl⟩
  · rw [decide_eq_false (by omega)]
    have hi : (1 : Int) ≤ (n : Int) := by omega
    have hj : ¬ (n : Int) ≤ 32 := by omega
    go_enter Tryz.func71, Tryz.ntmps71
    go_wp2
    go_ret
    exact ⟨rfl, rfl⟩
/-- The document's MayTID (68). -/
theorem rmaytid_law (e s : Int) (w : World) : Calls Tryz.prog 68 #[.agg #[.int .i64 e, .int .i64 s]] w fun r w' => r = .returned (.bool (tidB e s)) ∧ Below w.heap.size w w' := by
  unfold tidB inB
  have hb : Below w.heap.size w (w.alloc (.cells #[.int .i64 e, .int .i64 s] 36)) := bl1 _ _
  have HBX := Lib.hid hb
  clear hb
  by_cases h1 : 1 ≤ e
  · by_cases h2 : e ≤ 16777215
    · by_cases h3 : 1 ≤ s
      · by_cases h4 : s ≤ 2147483647
        · rw [decide_eq_true ⟨h1, h2⟩, decide_eq_true ⟨h3, h4⟩]
          go_enter Tryz.func68, Tryz.ntmps68
          go_wp2
          go_ret
          exact ⟨rfl, HBX.out⟩
        · rw [decide_eq_true ⟨h1, h2⟩, decide_eq_false (fun h => h4 h.2)]
          go_enter Tryz.func68, Tryz.ntmps68
          go_wp2
          go_ret
          exact ⟨rfl, HBX.out⟩
      · rw [decide_eq_true ⟨h1, h2⟩, decide_eq_false (fun h => h3 h.1)]
        go_enter Tryz.func68, Tryz.ntmps68
        go_wp2
        go_ret
        exact ⟨rfl, HBX.out⟩
    · rw [decide_eq_false (fun h => h2 h.2), Bool.false_and]
      go_enter Tryz.func68, Tryz.ntmps68
      go_wp2
      go_ret
      exact ⟨rfl, HBX.out⟩
  · rw [decide_eq_false (fun h => h1 h.1), Bool.false_and]
    go_enter Tryz.func68, Tryz.ntmps68
    go_wp2
    go_ret
    exact ⟨rfl, HBX.out⟩
def SmlQ (W : World) (B : Nat) (R : List Int) (most : Nat) (r : Ending) (w' : World) : Prop :=
  ((upP most R = none ∧ (∃ z : Int, r = .returned (.tuple #[.int .i64 z, .bool false])) ∧ ∃ R', RqS w' B R') ∨
    ∃ (x : Nat) (R' : List Int), upP most R = some (x, R') ∧ x ≤ most ∧ r = .returned (.tuple #[.int .i64 (x : Int), .bool true]) ∧ RqS w' B R') ∧ W.grownBy w' (some B)
set_option maxRecDepth 100000 in
set_option maxHeartbeats 4000000 in
/-- small (88). -/
theorem small_law {W : World} {B : Nat} {R : List Int} (h : RqS W B R) (most : Nat) (hm : most ≤ 2147483647) :
    Calls Tryz.prog 88 #[.pointer (some ⟨B, 0, none⟩), .int .i64 (most : Int)] W (SmlQ W B R most) := by
  obtain ⟨ad, cap, n, L, p, h1, h2, h3, h4⟩ := h
  have HQ := Lib.hid (qnumber h1 h3 h4)
  have HR := Lib.hid h2
  have HB := Lib.hid (And.intro h3 h4)
  have hwm : IntKind.u64.wrap (most : Int) = (most : Int) := by rw [IntKind.wrap_u64]; omega
  clear h1 h2 h3 h4
  go_enter Tryz.func88, Tryz.ntmps88
  go_wp2_with fail
  refine HQ.out.mono ?_
  rintro r w1 ⟨⟨e1, rfl, hr⟩ | ⟨v, j, e1, hv, hj, rfl, hr⟩, hg⟩
  · have HX := Lib.hid (show upP most R = none by unfold upP; rw [← HR.out, e1])
    have H := Lib.hid (And.intro hr hg)
    clear e1 hr hg HQ
    go_wp2_with fail
    go_ret2
    exact ⟨.inl ⟨HX.out, ⟨_, rfl⟩, _, ad, cap, n, L, p, H.out.1, rfl, HB.out.1, HB.out.2⟩, H.out.2⟩
  have H := Lib.hid (And.intro hr hg)
  obtain ⟨z, hz⟩ : ∃ z, IntKind.i64.wrap (v : Int) = z := ⟨_, rfl⟩
  by_cases hle : v ≤ most
  · have HX := Lib.hid (show upP most R = some (v, L.drop (p + j)) by unfold upP; rw [← HR.out, e1]; simp only [List.drop_drop, hle, if_true])
    have d1 : (v : Int) ≤ (most : Int) := by omega
    have HZ := Lib.hid (show z = (v : Int) by rw [← hz, IntKind.wrap_i64]; omega)
    have HLE := Lib.hid hle
    clear e1 hr hg HQ hle
    go_wp2_with fail
    go_ret2
    exact ⟨.inr ⟨v, _, HX.out, HLE.out, by rw [HZ.out]; rfl, ad, cap, n, L, p + j, H.out.1, rfl, HB.out.1, HB.out.2⟩, H.out.2⟩
  · have HX := Lib.hid (show upP most R = none by unfold upP; rw [← HR.out, e1]; simp only [hle, if_false])
    have d1 : ¬ (v : Int) ≤ (most : Int) := by omega
    have d2 : decide (v ≤ most) = false := by simp; omega
    clear e1 hr hg HQ hle
    go_wp2_with fail
    go_ret2
    exact ⟨.inl ⟨HX.out, ⟨z, rfl⟩, _, ad, cap, n, L, p + j, H.out.1, rfl, HB.out.1, HB.out.2⟩, H.out.2⟩
theorem wBelow {w W1 w' : World} (h : Below w.heap.size w W1) (g : W1.grownBy w' (some w.heap.size)) (hsz : W1.heap.size = w.heap.size + 1) : Below w.heap.size w w' := below_oth h g (by omega) (Nat.le_refl _)
theorem rdq_box (w : World) (a : Option Addr) (cap n : Nat) (L : List Int) (hn : L.length = n) (hl : Ls .u8 w a cap L) : Rdq (w.alloc (.cells #[.slice a n cap, .int .i64 0] 148)) w.heap.size a cap n L 0 := by
  refine ⟨hn, by rw [cell_new]; rfl, by rw [cell_new]; rfl, by simp [go_sem], fun W2 h2 => ?_, Nat.zero_le _, fun h0 b off e => ?_⟩
  · have hl2 := hl.below ((Below.refl _ w).alloc (Nat.le_refl _) (.cells #[.slice a n cap, .int .i64 0] 148))
    refine ⟨fun k hk => ?_, hl.nl, hl.le⟩
    obtain ⟨b, off, e, hc⟩ := hl2.rd k hk
    exact ⟨b, off, e, (h2 (by omega) k b off e).trans hc⟩
  · obtain ⟨b1, o1, e1, hc⟩ := hl.get 0 (by omega)
    rw [e] at e1
    cases e1
    exact World.block_lt_of_cell? w _ hc
theorem rqs_box (w : World) (a : Option Addr) (cap n : Nat) (L : List Int) (hn : L.length = n) (hn2 : n ≤ 1000000) (hb : Byt L) (hl : Ls .u8 w a cap L) : RqS (w.alloc (.cells #[.slice a n cap, .int .i64 0] 148)) w.heap.size L :=
  ⟨a, cap, n, L, 0, rdq_box w a cap n L hn hl, rfl, hn2, hb⟩
def NumS (W : World) (B : Nat) (R : List Int) (r : Ending) (w' : World) : Prop :=
  ((numR 0 0 R = none ∧ r = .returned (.tuple #[.int .u64 0, .int .i64 4]) ∧ RqS w' B R) ∨
    ∃ v j : Nat, numR 0 0 R = some (v, j) ∧ v < 18446744073709551616 ∧ r = .returned (.tuple #[.int .u64 (v : Int), .int .i64 0]) ∧ RqS w' B (R.drop j)) ∧ W.grownBy w' (some B)
theorem numberq_law {W : World} {B : Nat} {R : List Int} (h : RqS W B R) : Calls Tryz.prog 141 #[.pointer (some ⟨B, 0, none⟩)] W (NumS W B R) := by
  obtain ⟨ad, cap, n, L, p, h1, rfl, h3, h4⟩ := h
  refine (qnumber h1 h3 h4).mono ?_
  rintro r w' ⟨⟨e1, rfl, hr⟩ | ⟨v, j, e1, hv, hj, rfl, hr⟩, hg⟩
  · exact ⟨.inl ⟨e1, rfl, ad, cap, n, L, p, hr, rfl, h3, h4⟩, hg⟩
  · exact ⟨.inr ⟨v, j, e1, hv, rfl, ad, cap, n, L, p + j, hr, by rw [List.drop_drop], h3, h4⟩, hg⟩
theorem RowsO.snoc {w w' : World} {base k : Nat} {fs : List (List Int)} {R : List P1} {p : P1} {v v' : Value} (h1 : R.map P1.bs = fs) (hk : fs.length = k) (h2 : w.ownsRow base 22 1 v k (R.map P1.v)) (h3 : ∀ q ∈ R, w.ownsRow base 5 1 q.v q.bs.length (iv .u8 q.bs)) (hp : w.ownsRow base 5 1 p.v p.bs.length (iv .u8 p.bs))
    (h' : w'.ownsRow base 22 1 v' (k + 1) (R.map P1.v ++ [p.v])) (g : w.grownBy w' v.ownBlock) : RowsO w' base (fs ++ [p.bs]) v' := by
  refine ⟨R ++ [p], by rw [List.map_append, h1]; rfl, ?_, fun q hq => ?_⟩
  · rw [List.length_append, hk, List.map_append]
    exact h'
  · rcases List.mem_append.1 hq with hq | hq
    · exact (h3 q hq).kept g (own_apart (h3 q hq) h2 (by decide))
    · simp only [List.mem_singleton] at hq
      subst hq
      exact hp.kept g (own_apart hp h2 (by decide))
set_option maxRecDepth 100000 in
set_option maxHeartbeats 4000000 in
/-- The document's Read (164). -/
theorem readq_law (a : Option Addr) (L : List Int) (n cap : Nat) (hL : L.length = n) (hn : n ≤ 1000000) (hB : Byt L) (w : World) (hA : Ls .u8 w a cap L) :
    Calls Tryz.prog 164 #[.slice a n cap] w (RowR w (rowP L)) := by
  obtain ⟨i0, hi, hz0, hz1, hz2⟩ := info_parts info24
  have H0 := Lib.hid (rqs_box w a cap n L hL hn hB hA)
  clear hA hB hL
  go_enter Tryz.func164, Tryz.ntmps164
  go_wp2_with fail
  have B0 : Below w.heap.size w (w.alloc (.cells #[.slice a n cap, .int .i64 0] 148)) := (Below.refl _ _).alloc (Nat.le_refl _) _
  have hsz : (w.alloc (.cells #[.slice a n cap, .int .i64 0] 148)).heap.size = w.heap.size + 1 := by simp
  generalize w.alloc (.cells #[.slice a n cap, .int .i64 0] 148) = W1 at H0 B0 hsz ⊢
  have HB0 := Lib.hid B0
  have HSZ := Lib.hid hsz
  clear B0 hsz
  refine (numberq_law H0.out).mono ?_
  rintro r w2 ⟨⟨e1, rfl, hr⟩ | ⟨c0, j, e1, hc0, rfl, hr⟩, g2⟩
  · have HX := Lib.hid (show rowP L = none from rowP_1 (by unfold listP upP; rw [e1]))
    have HBE := Lib.hid (wBelow HB0.out g2 HSZ.out)
    clear e1 hr g2
    go_wp2_with fail
    go_ret2
    exact ⟨.inl ⟨HX.out, rfl⟩, HBE.out⟩
  by_cases h1 : c0 < 1
  · have d1 : (c0 : Int) < 1 := by omega
    have HX := Lib.hid (show rowP L = none by
      have e : listP 3 (bytesP 24) L = some ([], L.drop j) := by
        unfold listP upP
        rw [e1]
        obtain rfl : c0 = 0 := by omega
        rfl
      exact rowP_2 e (by simp [mayF]))
    have HBE := Lib.hid (wBelow HB0.out g2 HSZ.out)
    clear e1 hr g2
    go_wp2_with fail
    go_ret2
    exact ⟨.inl ⟨HX.out, rfl⟩, HBE.out⟩
  have d1 : ¬ (c0 : Int) < 1 := by omega
  by_cases h3 : 3 < c0
  · have d3 : (3 : Int) < (c0 : Int) := by omega
    have HX := Lib.hid (show rowP L = none from rowP_1 (by unfold listP upP; rw [e1]; simp only; rw [if_neg (by omega)]))
    have HBE := Lib.hid (wBelow HB0.out g2 HSZ.out)
    clear e1 hr g2
    go_wp2_with fail
    go_ret2
    exact ⟨.inl ⟨HX.out, rfl⟩, HBE.out⟩
  have d3 : ¬ (3 : Int) < (c0 : Int) := by omega
  have hc3 : (c0 : Int) ≤ 3 := by omega
  have HL0 := Lib.hid (show listP 3 (bytesP 24) L = addP [] (manyP (bytesP 24) (c0 - 0) (L.drop j)) by
    rw [addP_nil]
    unfold listP upP
    rw [e1]
    simp only
    rw [if_pos (by omega)]
    rfl)
  have hcw : IntKind.i64.wrap (c0 : Int) = (c0 : Int) := by rw [IntKind.wrap_i64]; omega
  have HS0 := Lib.hid hr
  have HG0 := Lib.hid g2
  have HZ0 := Lib.hid (show w.heap.size + 1 ≤ w2.heap.size by rw [← HSZ.out]; exact g2.size)
  have HC := Lib.hid (show 1 ≤ c0 ∧ c0 ≤ 3 by omega)
  clear e1 hr g2 h1 h3 H0
  go_wp2_with fail
  go_loopw [7, 8] (fun v i wr => ∃ (k : Nat) (fs : List (List Int)) (Rk : List Int), k ≤ c0 ∧ i = .int .i64 (k : Int) ∧ Hid (fs.length = k ∧ listP 3 (bytesP 24) L = addP fs (manyP (bytesP 24) (c0 - k) Rk) ∧ ∀ f ∈ fs, f.length ≤ 24) ∧ Hid (RowsO wr (w.heap.size + 1) fs v) ∧ Hid (RqS wr w.heap.size Rk) ∧ Hid (W1.grownBy wr (some w.heap.size)) ∧ Hid (w.heap.size + 1 ≤ wr.heap.size)) (fun _ i _ => c0 - (intOf i).toNat)
  case atStart => exact ⟨0, [], _, by omega, rfl, Lib.hid ⟨rfl, HL0.out, fun f hf => by simp at hf⟩, Lib.hid (RowsO.nil _ _), HS0, HG0, HZ0⟩
  case round =>
    clear HL0 HS0 HG0 HZ0
    obtain ⟨k, fs, Rk, hk, rfl, HL, HO, HS, HG, HZ⟩ := hrel
    by_cases hlt : k < c0
    · have d4 : (k : Int) < (c0 : Int) := by omega
      have RO := Lib.hid (bytesq_law HS.out 24 (by decide))
      go_wp2_with fail
      refine RO.out.mono ?_
      rintro e w4 ⟨⟨h1, ⟨er, her, rfl⟩, _⟩ | ⟨b, R', a1, c1, h1, rfl, h2, h3⟩, g1⟩
      · have HX := Lib.hid (show rowP L = none from rowP_1 (by rw [HL.out.2.1]; exact manyP_stop hlt fs h1))
        have HBE := Lib.hid (wBelow HB0.out (oth_trans HG.out g1) HSZ.out)
        have hne : (er != 0) = true := by rcases her with rfl | rfl <;> rfl
        clear h1 her g1
        go_wp2_with fail
        go_ret2
        exact ⟨.inl ⟨HX.out, rfl⟩, HBE.out⟩
      · have HN := Lib.hid (show (fs ++ [b]).length = k + 1 ∧ listP 3 (bytesP 24) L = addP (fs ++ [b]) (manyP (bytesP 24) (c0 - (k + 1)) R') ∧ ∀ f ∈ fs ++ [b], f.length ≤ 24 from ⟨by rw [List.length_append, HL.out.1]; rfl, by rw [HL.out.2.1]; exact manyP_next hlt fs h1, fun f hf => by
          rcases List.mem_append.1 hf with hf | hf
          · exact HL.out.2.2 f hf
          · rw [List.mem_singleton] at hf
            subst hf
            exact (bytesP_inv HS.out.byt h1).1⟩)
        have hz4 : w.heap.size + 1 ≤ w4.heap.size := Nat.le_trans HZ.out g1.size
        obtain ⟨R, hr1, hr2, hr3⟩ := HO.out.oth (by omega) g1
        rw [HL.out.1] at hr2
        have HR1 := Lib.hid hr1
        have HR2 := Lib.hid hr2
        have HR3 := Lib.hid hr3
        have HP := Lib.hid (own_base HZ.out h2)
        have HS4 := Lib.hid h3
        have HG4 := Lib.hid (oth_trans HG.out g1)
        have HAL := Lib.hid (show Below (w.heap.size + 1) w4 (w4.alloc (.cells #[.slice a1 b.length c1] 22)) from (Below.refl _ w4).alloc hz4 _)
        obtain ⟨bl, hbl⟩ : ∃ bl, b.length = bl := ⟨_, rfl⟩
        have HBL := Lib.hid hbl
        rw [hbl] at HAL HP ⊢
        clear h1 h2 h3 g1 hr1 hr2 hr3 hbl HO HS HG RO
        go_wp2_with (at_builtin; refine wpList_append_own _ rfl (.tmp 42) (.tmp 44) 49 rfl (w.heap.size + 1) 22 i0 (.slice none 0 0) 1 24 Tryz.underlying49 hi hz0 hz1 hz2 rfl (by decide) _ k (R.map P1.v) rfl (HR2.out.alloc _) ⟨w4.heap.size, 0, none⟩ 1 1 [.slice a1 bl c1] rfl rfl (by intro j u hj; match j, hj with | 0, hj => (simp at hj; subst hj; simp [Addr.add, go_sem]) | j + 1, hj => simp at hj) (by intro u hu; simp at hu; subst hu; rfl) (by unfold maxLen; omega) (by omega) (by simp; omega) ?_)
        intro v6 w6 hown6 hgrow6 _
        have b6 : Below (w.heap.size + 1) w4 w6 := HAL.out.grown hgrow6 (by simp; omega) (fun j hj => (HR2.out.lt j hj).1)
        have HO6 := Lib.hid (RowsO.snoc (p := ⟨a1, c1, b⟩) HR1.out HL.out.1 (HR2.out.alloc (.cells #[.slice a1 bl c1] 22)) (fun q hq => (HR3.out q hq).alloc _) (by unfold P1.v; simp only; rw [HBL.out]; exact HP.out.alloc _) (by unfold P1.v; simp only; rw [HBL.out]; exact hown6) hgrow6)
        have HS6 := Lib.hid (HS4.out.below1 (b6.mono (Nat.le_refl _)))
        have HG6 := Lib.hid (grown_below HG4.out (b6.mono (by have := HSZ.out; omega)))
        have HZ6 := Lib.hid (show w.heap.size + 1 ≤ w6.heap.size from Nat.le_trans hz4 b6.size)
        clear b6 hown6 hgrow6
        go_wp2_with fail
        go_roundw
        case rel => exact ⟨k + 1, fs ++ [b], R', by omega, by go_num, HN, HO6, HS6, HG6, HZ6⟩
        case measure => simp [intOf]; omega
    · have d4 : ¬ (k : Int) < (c0 : Int) := by omega
      have HYES := Lib.hid (show listP 3 (bytesP 24) L = some (fs, Rk) by rw [HL.out.2.1, show c0 - k = 0 by omega]; simp [manyP, addP])
      obtain ⟨m, hm⟩ : ∃ m, Rk.length = m := ⟨_, rfl⟩
      have HLF := Lib.hid (leftq_law HS.out m hm)
      by_cases hm0 : 0 < m
      · have d5 : (0 : Int) < (m : Int) := by omega
        have HX := Lib.hid (show rowP L = none from rowP_2 HYES.out (fun h => by rw [h.1] at hm; simp at hm; omega))
        clear hm
        go_wp2_with fail
        refine HLF.out.mono ?_
        rintro r w5 ⟨rfl, hb5⟩
        have HBE := Lib.hid (wBelow HB0.out (oth_trans HG.out (oth_below _ hb5)) HSZ.out)
        clear hb5
        go_wp2_with fail
        go_ret2
        exact ⟨.inl ⟨HX.out, rfl⟩, HBE.out⟩
      · have d5 : ¬ (0 : Int) < (m : Int) := by omega
        have HX := Lib.hid (show rowP L = some fs from by
          have : Rk = [] := List.length_eq_zero_iff.1 (by omega)
          have hy := HYES.out
          rw [this] at hy
          refine rowP_3 hy ?_
          unfold mayF
          rw [Bool.and_eq_true, List.all_eq_true]
          exact ⟨fun f hf => decide_eq_true (HL.out.2.2 f hf), decide_eq_true (by have := HL.out.1; have := HC.out; omega)⟩)
        clear hm
        go_wp2_with fail
        refine HLF.out.mono ?_
        rintro r w5 ⟨rfl, hb5⟩
        have HBE := Lib.hid (wBelow HB0.out (oth_trans HG.out (oth_below _ hb5)) HSZ.out)
        have HO5 := Lib.hid ((HO.out.below hb5).base (show w.heap.size ≤ w.heap.size + 1 by omega))
        clear hb5
        go_wp2_with fail
        go_ret2
        exact ⟨.inr ⟨fs, _, HX.out, rfl, HO5.out⟩, HBE.out⟩
def StP.v (x : StP) : Value := .agg #[.slice x.ka x.key.length x.kc, .slice x.ra x.R.length x.rc, .int .i64 x.e, .int .i64 x.s]
set_option maxRecDepth 100000 in
theorem hnf126 (f : Fn) (c1 c2 : Array Value) (w : World) : (binOp .eql 126 (.func f c1 c2) .nilFunc).run Tryz.prog w = .ok (.bool false) w := by
  first | rfl | simp [binOp, run_underlying Tryz.underlying126] | simp [binOp, Op.equal, run_underlying Tryz.underlying126, go_sem]

set_option maxRecDepth 100000 in
set_option maxHeartbeats 4000000 in
/-- Put of numbers (78). -/
theorem putnums_own (a : Option Addr) (R : List Int) (n cap : Nat) (hn : R.length = n) (hn2 : n ≤ 1000000) (ht : (putL nuW R).length ≤ 1048576) (w : World) (hR : NuR w a R)
    (hF : ∀ (k : Nat) (x : Int), R[k]? = some x → ∀ W, Below w.heap.size w W → Calls Tryz.prog 79 #[.int .i64 x] W (OwnB W (nuW x))) :
    Calls Tryz.prog 78 #[.slice a n cap, .func (.func 79) #[] #[]] w fun e w' => ∃ a' c', e = .returned (.tuple #[.slice a' (putL nuW R).length c', .int .i64 0]) ∧ w'.ownsRow w.heap.size 5 1 (.slice a' (putL nuW R).length c') (putL nuW R).length (iv .u8 (putL nuW R)) ∧ Lsb w.heap.size w' a' c' (putL nuW R) ∧ Below w.heap.size w w' := by
  have HR := Lib.hid hR
  have HN := Lib.hid hn
  have HF := Lib.hid hF
  have HT := Lib.hid (show (numW n).length + (R.map nuW).flatten.length ≤ 1048576 by rw [← hn, ← putL_len]; exact ht)
  have hw : IntKind.u64.wrap (n : Int) = (n : Int) := by rw [IntKind.wrap_u64]; omega
  have hnf := fun W => hnf126 (.func 79) #[] #[] W
  clear hR hF ht hn
  go_enter Tryz.func78, Tryz.ntmps78
  go_wp2_with fail
  refine (number_own n (by omega) _).mono ?_
  rintro e w1 ⟨a1, c1, rfl, ho, hl, hb⟩
  have HO1 := Lib.hid ho
  have HB1 := Lib.hid hb
  clear ho hl hb hnf
  obtain ⟨q, hq⟩ : ∃ q, (numW n).length = q := ⟨_, rfl⟩
  have HQ := Lib.hid hq
  rw [hq] at HO1 HT ⊢
  clear hq
  go_wp2_with fail
  go_loopw [6, 8, 17] (fun v x i wr => ∃ k : Nat, k ≤ n ∧ i = .int .i64 (k : Int) ∧ wr.ownsRow w.heap.size 5 1 v (q + ((R.take k).map nuW).flatten.length) (iv .u8 (numW n ++ ((R.take k).map nuW).flatten)) ∧ Below w.heap.size w wr) (fun _ _ i _ => n - (intOf i).toNat)
  case atStart => exact ⟨0, by omega, rfl, by simpa using HO1.out, HB1.out⟩
  case round =>
    clear HO1 HB1
    obtain ⟨k, hk, rfl, hown, B⟩ := hrel
    have HO := Lib.hid hown
    have HB := Lib.hid B
    have hs1 := B.size
    clear hown
    by_cases hlt : k < n
    · have hkl : (k : Int) < (n : Int) := by omega
      obtain ⟨x, hx⟩ : ∃ x, R[k]? = some x := ⟨_, List.getElem?_eq_getElem (by rw [HN.out]; exact hlt)⟩
      obtain ⟨b1, o1, e1, cc2⟩ := HR.out.below B k x hx
      subst e1
      have HC := Lib.hid (HF.out k x hx wr B)
      have HS := Lib.hid (flat_take nuW R k x hx)
      have HLE := Lib.hid (show ((R.take k).map nuW).flatten.length + (nuW x).length ≤ (R.map nuW).flatten.length by rw [← List.length_append, ← flat_take nuW R k x hx]; exact flat_le nuW R (k + 1))
      obtain ⟨F, hF⟩ : ∃ F, ((R.take k).map nuW).flatten = F := ⟨_, rfl⟩
      obtain ⟨X, hX⟩ : ∃ X, nuW x = X := ⟨_, rfl⟩
      rw [hF] at HO HS HLE
      rw [hX] at HC HS HLE
      obtain ⟨fl, hfl⟩ : ∃ fl, F.length = fl := ⟨_, rfl⟩
      obtain ⟨xl, hxl⟩ : ∃ xl, X.length = xl := ⟨_, rfl⟩
      have HXL := Lib.hid (And.intro hfl hxl)
      rw [hfl] at HO HLE
      rw [hxl] at HLE
      have hsum : q + fl + xl ≤ 1048576 := by have := HT.out; have := HLE.out; omega
      clear hx hF hX hfl hxl B
      go_wp2_with fail
      refine HC.out.mono ?_
      rintro e w2 ⟨a2, c2, rfl, ho2, hl2, hb2⟩
      have HL2 := Lib.hid hl2.ls
      have HO2 := Lib.hid (show w2.ownsRow w.heap.size 5 1 _ _ _ from HO.out.kept (grown_of_below hb2) (by cases hv : Value.ownBlock _ with | none => exact Or.inl rfl | some b => exact Or.inr (fun e => by cases e)))
      have HB2 := Lib.hid (step_below HB.out hb2)
      have hs2 := HB2.out.size
      rw [HXL.out.2]
      clear ho2 hl2 hb2 HO
      go_wp2_with (at_builtin; refine append_ls eltB rfl (.tmp 21) (.tmp 24) rfl w.heap.size _ (q + fl) (iv .u8 (numW n ++ F)) rfl HO2.out _ _ xl X HXL.out.2 rfl HL2.out hsum hs2 ?_; intro v2 w3 hown2 hgrow2; rw [← iv_append, List.append_assoc] at hown2; have HO3 := Lib.hid hown2; have HB3 := Lib.hid (HB2.out.grown hgrow2 hs2 (fun j hj => (HO2.out.lt j hj).1)); clear hown2 hgrow2)
      go_roundw
      case rel => exact ⟨k + 1, by omega, by go_num, by rw [HS.out, List.length_append, HXL.out.1, HXL.out.2, ← Nat.add_assoc]; exact HO3.out, HB3.out⟩
      case measure => simp [intOf]; omega
    · have hkl : ¬ (k : Int) < (n : Int) := by omega
      obtain rfl : k = n := by omega
      have hPL : numW k ++ ((R.take k).map nuW).flatten = putL nuW R := by
        unfold putL
        rw [HN.out, List.take_of_length_le (by rw [HN.out]; exact Nat.le_refl _)]
      have hLL : q + ((R.take k).map nuW).flatten.length = (putL nuW R).length := by rw [← hPL, List.length_append, HQ.out]
      have HO4 := HO.out
      rw [hPL, hLL] at HO4
      obtain ⟨a', c', hv, hl'⟩ := own_lsb HO4 rfl
      subst hv
      have HX := Lib.hid (And.intro HO4 hl')
      clear hPL hLL HO4 hl' HO B
      obtain ⟨pl, hpl⟩ : ∃ pl, (putL nuW R).length = pl := ⟨_, rfl⟩
      rw [hpl]
      have HPL := Lib.hid hpl
      clear hpl
      go_wp2_with fail
      go_ret2
      exact ⟨a', c', by rw [HPL.out]; rfl, HX.out.1, HX.out.2, HB.out⟩

set_option maxRecDepth 100000 in
set_option maxHeartbeats 4000000 in
/-- PutCheckpoint (29), of too many rows. -/
theorem putck_long (e : Int) (a : Option Addr) (ts : List TbP) (n cap : Nat) (hn : ts.length = n) (hn2 : n ≤ 1000000) (hxs : ∀ t ∈ ts, t.xs.length ≤ 1000000 ∧ ∀ x ∈ t.xs, x.R.length ≤ 1000000) (w : World) (hR : TbsR w a ts) (hb : ckB e ts = true) (hc : cntT ts n ≤ 1000000000) (hl : 4096 < cntT ts n) :
    Calls Tryz.prog 29 #[.agg #[.int .i64 e, .slice a n cap]] w (PckR w e ts) := by
  have HM := Lib.hid (fun W (b : Below w.heap.size w W) => mayck_law e a ts n cap hn hn2 hxs W (hR.below b))
  have HC := Lib.hid (fun W (b : Below w.heap.size w W) => counts_law e a ts n cap hn hn2 hc W (hR.below b))
  have HB := Lib.hid (And.intro hb hn)
  rw [hb] at HM
  obtain ⟨s, hs⟩ : ∃ s, cntT ts n = s := ⟨_, rfl⟩
  have HS := Lib.hid hs
  rw [hs] at HC hl
  have d1 : (4096 : Int) < (s : Int) := by omega
  clear hb hn hR hxs hs hc
  go_enter Tryz.func29, Tryz.ntmps29
  go_upto_region 1 with (fail)
  obtain ⟨W0, hW0⟩ : ∃ W0, w.alloc (.cells #[.int .i64 e, .slice a n cap] 56) = W0 := ⟨_, rfl⟩
  have hb0 : Below w.heap.size w W0 := by rw [← hW0]; exact bl1 _ _
  have bx : BoxC W0 w.heap.size #[.int .i64 e, .slice a n cap] 56 := by rw [← hW0]; exact BoxC.new w _ 56
  try rw [hW0]
  clear hW0
  have y0 := bx.cell 0
  have y1 := bx.cell 1
  simp only [List.getElem?_toArray, List.getElem?_cons_zero, List.getElem?_cons_succ] at y0 y1
  go_wp2_with fail
  refine (HM.out _ hb0).mono ?_; rintro r Wa ⟨rfl, hba⟩
  have HBA := Lib.hid (step_below hb0 hba)
  have bxa := bx.below hba
  clear y0 y1 bx hb0 hba
  have y0 := bxa.cell 0
  have y1 := bxa.cell 1
  simp only [List.getElem?_toArray, List.getElem?_cons_zero, List.getElem?_cons_succ] at y0 y1
  go_wp2_with fail
  refine (HC.out _ HBA.out).mono ?_; rintro r Wb ⟨a', c', rfl, _, hbb⟩
  have HBB := Lib.hid (step_below HBA.out hbb)
  clear hbb y0 y1 bxa
  go_wp2_with fail
  go_ret2
  refine ⟨.inr (.inl ⟨HB.out.1, ?_, rfl⟩), HBB.out⟩
  rw [HB.out.2, HS.out]; omega
set_option maxRecDepth 100000 in
set_option maxHeartbeats 4000000 in
/-- PutCheckpoint (29). -/
theorem putck_ok (e : Int) (a : Option Addr) (ts : List TbP) (n cap : Nat) (hn : ts.length = n) (hn2 : n ≤ 1000000) (hxs : ∀ t ∈ ts, t.xs.length ≤ 1000000 ∧ ∀ x ∈ t.xs, x.R.length ≤ 1000000) (w : World) (hR : TbsR w a ts) (hb : ckB e ts = true) (hl : cntT ts n ≤ 4096) :
    Calls Tryz.prog 29 #[.agg #[.int .i64 e, .slice a n cap]] w (PckR w e ts) := by
  have HM := Lib.hid (fun W (b : Below w.heap.size w W) => mayck_law e a ts n cap hn hn2 hxs W (hR.below b))
  have HC := Lib.hid (fun W (b : Below w.heap.size w W) => counts_law e a ts n cap hn hn2 (by omega) W (hR.below b))
  have ok := ck_ok hb
  obtain ⟨e, rfl⟩ : ∃ k : Nat, e = (k : Int) := ⟨e.toNat, by have := ok.e1; omega⟩
  have he : e ≤ 16777215 := by have := ok.e2; omega
  have hn4 : n ≤ 4 := by have := ok.n; omega
  have HB := Lib.hid (And.intro hb hn)
  have HOKA := Lib.hid ok
  have HHL := Lib.hid (hdW_len he ok.n (by rw [hn]; exact hl))
  have HHY := Lib.hid (hdW_byt e ts)
  have HR := Lib.hid hR
  have HHD := Lib.hid (show hdW e ts = numW e ++ putL nuW (cntsL ts n) by unfold hdW; rw [hn])
  have HPN := Lib.hid (fun W a' c' (h : W.ownsRow w.heap.size 2 1 (.slice a' n c') n (iv .i64 (cntsL ts n))) => putnums_own a' (cntsL ts n) n c' (cntsL_len ts n (by omega)) hn2 (by have := cnts_put ok.n (by rw [hn]; exact hl); rw [hn] at this; omega) W (by obtain ⟨a2, c2, e2, h2, _⟩ := own_ls h (cntsL_len ts n (by omega)); cases e2; exact NuR.of h2) (fun k x hx W' _ => by
    have hx2 := List.mem_of_getElem? hx
    unfold cntsL at hx2
    obtain ⟨t, ht, rfl⟩ := List.mem_map.1 hx2
    have h3 := (hxs t (List.mem_of_mem_take ht)).1
    have h4 := putnumber_own t.xs.length (by omega) W'
    unfold nuW
    rw [Int.toNat_natCast]
    exact h4))
  rw [hb] at HM
  obtain ⟨s, hs⟩ : ∃ s, cntT ts n = s := ⟨_, rfl⟩
  have HS := Lib.hid hs
  rw [hs] at HC hl
  have d1 : ¬ (4096 : Int) < (s : Int) := by omega
  obtain ⟨PN, hPN⟩ : ∃ PN, putL nuW (cntsL ts n) = PN := ⟨_, rfl⟩
  rw [hPN] at HPN HHD
  clear hb hn hR hxs hs ok hPN
  go_enter Tryz.func29, Tryz.ntmps29
  go_upto_region 1 with (fail)
  obtain ⟨W0, hW0⟩ : ∃ W0, w.alloc (.cells #[.int .i64 (e : Int), .slice a n cap] 56) = W0 := ⟨_, rfl⟩
  have hb0 : Below w.heap.size w W0 := by rw [← hW0]; exact bl1 _ _
  have bx : BoxC W0 w.heap.size #[.int .i64 (e : Int), .slice a n cap] 56 := by rw [← hW0]; exact BoxC.new w _ 56
  try rw [hW0]
  clear hW0
  have y0 := bx.cell 0
  have y1 := bx.cell 1
  simp only [List.getElem?_toArray, List.getElem?_cons_zero, List.getElem?_cons_succ] at y0 y1
  go_wp2_with fail
  refine (HM.out _ hb0).mono ?_; rintro r Wa ⟨rfl, hba⟩
  have HBA := Lib.hid (step_below hb0 hba)
  have bxa := bx.below hba
  clear y0 y1 bx hb0 hba HM
  have y0 := bxa.cell 0
  have y1 := bxa.cell 1
  simp only [List.getElem?_toArray, List.getElem?_cons_zero, List.getElem?_cons_succ] at y0 y1
  go_wp2_with fail
  refine (HC.out _ HBA.out).mono ?_; rintro r Wb ⟨a', c', rfl, hob, hbb⟩
  have HBB := Lib.hid (step_below HBA.out hbb)
  have bxb := bxa.below hbb
  have HPB := Lib.hid (HPN.out _ _ _ (own_base (b := w.heap.size) HBA.out.size hob))
  clear hbb y0 y1 bxa hob HC HPN
  have y0 := bxb.cell 0
  have y1 := bxb.cell 1
  simp only [List.getElem?_toArray, List.getElem?_cons_zero, List.getElem?_cons_succ] at y0 y1
  go_upto_region 6 with (fail)
  go_wp2_with fail
  refine HPB.out.mono ?_; rintro r Wc ⟨ap, cp, rfl, _, hlp, hbc⟩
  have HBC := Lib.hid (step_below HBB.out hbc)
  have bxc := bxb.below hbc
  have HLP := Lib.hid hlp.ls
  clear hbc y0 y1 bxb hlp HPB
  have y0 := bxc.cell 0
  have y1 := bxc.cell 1
  simp only [List.getElem?_toArray, List.getElem?_cons_zero, List.getElem?_cons_succ] at y0 y1
  go_wp2_with fail
  refine (putnumber_own e (by omega) _).mono ?_; rintro r w3 ⟨a3, c3, rfl, _, hl3, hb3⟩
  have HBD := Lib.hid (step_below HBC.out hb3)
  have bxd := bxc.below hb3
  have hfl : flat [⟨a3, c3, numW e⟩, ⟨ap, cp, PN⟩] = hdW e ts := by rw [HHD.out]; simp [flat]
  have hRR := rdR_new w3 [⟨a3, c3, numW e⟩, ⟨ap, cp, PN⟩] #[.slice a3 (numW e).length c3, .slice ap PN.length cp] 22 (0, 0) (by simp only [List.map_cons, List.map_nil, P1.v]) (by
    intro p hp
    simp only [List.mem_cons, List.not_mem_nil, or_false] at hp
    rcases hp with rfl | rfl
    · exact hl3.ls
    · exact HLP.out.below hb3)
  have hj := join_own (some ⟨w3.heap.size, 0, none⟩) _ 2 2 rfl (by omega) (by rw [hfl]; have := HHL.out.2; omega) _ hRR
  rw [hfl] at hj
  have HJ := Lib.hid hj
  clear hb3 hl3 y0 y1 bxc hfl hRR hj HLP HHD
  go_wp2_with fail
  refine HJ.out.mono ?_; rintro r w4 ⟨a4, c4, rfl, hl4, ho4, hb4⟩
  have HFR := Lib.hid (frame_ok a4 (hdW e ts) (hdW e ts).length c4 rfl HHL.out.1 (Nat.le_trans HHL.out.2 (by omega)) HHY.out w4 hl4)
  have HBE := Lib.hid (step_below (HBD.out.alloc HBD.out.size _) hb4)
  have bxe := (bxd.alloc _).below hb4
  clear hl4 ho4 hb4 bxd HJ
  go_wp2_with fail
  refine HFR.out.mono ?_; rintro r w5 ⟨a5, c5, rfl, ho5, hl5, hb5⟩
  have HBF := Lib.hid (step_below HBE.out hb5)
  have HO5 := Lib.hid (own_base (b := w.heap.size) HBE.out.size ho5)
  have bxf := bxe.below hb5
  clear ho5 hl5 hb5 bxe HFR
  have y0 := bxf.cell 0
  have y1 := bxf.cell 1
  simp only [List.getElem?_toArray, List.getElem?_cons_zero, List.getElem?_cons_succ] at y0 y1
  have HTL := Lib.hid (fun k (hk : k ≤ n) => tabsW_len HOKA.out k (by rw [HB.out.2]; exact hk))
  have HCL := Lib.hid (fun k => (show cntT ts k ≤ s by rw [← HS.out]; have := cntT_le ts k; rw [HB.out.2] at this; exact this))
  obtain ⟨FH, hFH⟩ : ∃ FH, frameL (hdW e ts) = FH := ⟨_, rfl⟩
  obtain ⟨fh, hfh⟩ : ∃ fh, 8 + (hdW e ts).length = fh := ⟨_, rfl⟩
  have hfh2 : fh ≤ 68 := by rw [← hfh]; have := HHL.out.2; omega
  have HFH := Lib.hid (show FH.length = fh ∧ ckW e ts = FH ++ tabsW ts n by rw [← hFH, ← hfh]; exact ⟨frameL_len _, by unfold ckW; rw [HB.out.2]⟩)
  rw [hFH, hfh] at HO5
  rw [hfh]
  clear hFH hfh HHL HHY bxf
  go_wp2_with fail
  go_loopw [8, 10, 11, 13, 14, 15, 44] (fun v q1 q2 q3 q4 q5 j wr => ∃ i : Nat, i ≤ n ∧ j = .int .i64 (i : Int) ∧ Hid (wr.ownsRow w.heap.size 5 1 v (fh + (tabsW ts i).length) (iv .u8 (FH ++ tabsW ts i))) ∧ Hid (Below w.heap.size w wr)) (fun _ _ _ _ _ _ j _ => n - (intOf j).toNat)
  case atStart => exact ⟨0, Nat.zero_le _, rfl, Lib.hid (by simpa [tabsW] using HO5.out), HBF⟩
  case round =>
    obtain ⟨i, hi, rfl, HO, HBW⟩ := hrel
    clear HO5 y0 y1
    by_cases hlt : i < n
    · have dl : (i : Int) < (n : Int) := by omega
      obtain ⟨t, ht⟩ : ∃ t, ts[i]? = some t := ⟨_, List.getElem?_eq_getElem (by rw [HB.out.2]; exact hlt)⟩
      have HT := Lib.hid (And.intro (tabsW_next ht) (HOKA.out.all t (List.mem_of_getElem? ht)))
      have hcl : cntT ts i + t.xs.length ≤ s := by rw [← cntT_next ht]; exact HCL.out _
      have htl := HTL.out i (by omega)
      obtain ⟨bt, ot, rfl, ct, hst⟩ := (HR.out.below HBW.out) i t ht
      have HTT := Lib.hid ht
      obtain ⟨m, hm⟩ : ∃ m, t.xs.length = m := ⟨_, rfl⟩
      have HM := Lib.hid hm
      rw [hm] at ct HT hcl
      obtain ⟨TW, hTW⟩ : ∃ TW, tabsW ts i = TW := ⟨_, rfl⟩
      rw [hTW] at HO htl HT
      obtain ⟨tl, htl2⟩ : ∃ tl, TW.length = tl := ⟨_, rfl⟩
      have HTW := Lib.hid htl2
      rw [htl2] at HO htl
      have htlb : tl + 202 * m ≤ 202 * 4096 := by omega
      clear ht hst hm hTW htl2 htl hcl
      go_upto_region 12 with (fail)
      obtain ⟨WO, rfl⟩ : ∃ WO, WO = wr := ⟨_, rfl⟩
      go_loopw [8, 13, 14, 15, 51] (fun v q3 q4 q5 j wr => ∃ k : Nat, k ≤ m ∧ j = .int .i64 (k : Int) ∧ Hid (wr.ownsRow w.heap.size 5 1 v (fh + tl + (rowsW i t.xs k).length) (iv .u8 (FH ++ TW ++ rowsW i t.xs k))) ∧ Hid (Below w.heap.size w wr)) (fun _ _ _ _ j _ => m - (intOf j).toNat)
      case atStart => exact ⟨0, Nat.zero_le _, rfl, Lib.hid (by simpa [rowsW] using HO.out), HBW⟩
      case round =>
        obtain ⟨k, hk, rfl, HP, HBX⟩ := hrel
        clear ct
        by_cases hkm : k < m
        · have d2 : (k : Int) < (m : Int) := by omega
          obtain ⟨x, hx⟩ : ∃ x, t.xs[k]? = some x := ⟨_, List.getElem?_eq_getElem (by rw [HM.out]; exact hkm)⟩
          have hx2 := HT.out.2 x (List.mem_of_getElem? hx)
          obtain ⟨bt2, ot2, heq2, ct2, hst2⟩ := (HR.out.below HBX.out) i t HTT.out
          clear heq2 ct2
          obtain ⟨bb, off, hta, c0, c1, c2, c3, ok⟩ := hst2 k x hx
          have HRN := Lib.hid (rowsW_next (i := i) hx)
          have hrl := rowsW_len (i := i) (by omega) HT.out.2 k (by rw [HM.out]; exact hk)
          have HSL := Lib.hid (stW_len (i := i) (by omega) hx2)
          have HSY := Lib.hid (stW_byt (i := i) ok.kb ok.rb)
          obtain ⟨xe, hxe⟩ : ∃ q : Nat, x.e = (q : Int) := ⟨x.e.toNat, by have := hx2.e1; omega⟩
          obtain ⟨xs, hxs⟩ : ∃ q : Nat, x.s = (q : Int) := ⟨x.s.toNat, by have := hx2.s1; omega⟩
          have hxe2 : xe ≤ 16777215 := by have := hx2.e2; omega
          have hxs2 : xs ≤ 2147483647 := by have := hx2.s2; omega
          have HES := Lib.hid (show x.e.toNat = xe ∧ x.s.toNat = xs by rw [hxe, hxs]; exact ⟨Int.toNat_natCast _, Int.toNat_natCast _⟩)
          have HX2 := Lib.hid hx2
          have HOK := Lib.hid ok
          rw [hta]
          rw [hxe] at c2
          rw [hxs] at c3
          clear hx hx2 ok hta hxe hxs
          go_upto_region 14 with (fail)
          obtain ⟨W1, hW1⟩ : ∃ W1, wr.alloc (.cells #[.slice x.ka x.key.length x.kc, .slice x.ra x.R.length x.rc, .int .i64 (xe : Int), .int .i64 (xs : Int)] 59) = W1 := ⟨_, rfl⟩
          have hb1 : Below wr.heap.size wr W1 := by rw [← hW1]; exact bl1 _ _
          have bw : BoxC W1 wr.heap.size #[.slice x.ka x.key.length x.kc, .slice x.ra x.R.length x.rc, .int .i64 (xe : Int), .int .i64 (xs : Int)] 59 := by rw [← hW1]; exact BoxC.new wr _ 59
          try rw [hW1]
          clear hW1 c0 c1 c2 c3
          have HB1 := Lib.hid (step_below HBX.out hb1)
          have HP1 := Lib.hid (own_below HP.out hb1)
          have HOK1 := Lib.hid (HOK.out.below hb1)
          have FQ := Lib.hid (fun X (b : Below W1.heap.size W1 X) => (⟨(bw.below b).cell 0, (bw.below b).cell 1, (bw.below b).cell 2, (bw.below b).cell 3⟩ : X.cell? ⟨wr.heap.size, 0, none⟩ = some (.slice x.ka x.key.length x.kc) ∧ X.cell? ⟨wr.heap.size, 1, none⟩ = some (.slice x.ra x.R.length x.rc) ∧ X.cell? ⟨wr.heap.size, 2, none⟩ = some (.int .i64 (xe : Int)) ∧ X.cell? ⟨wr.heap.size, 3, none⟩ = some (.int .i64 (xs : Int))))
          clear hb1 bw HP HBX HOK
          rename_i KK hKK
          refine Code.wp_mono (Q := Exit.then KK (fun _ _ _ => False)) (fun e a' w' h => by cases e <;> first | exact h | exact h.elim) ?_
          refine wp_region_held_drew (S := (fun X => Below W1.heap.size W1 X)) (by kernel_rfl) ((Below.refl _ _).drew) (fun hHeld => ?_)
          refine tk 0 ?_ rfl (.inl ⟨by rfl, ?_⟩) ?_
          rotate_left
          · intro W hSw; go_simp; try with_reducible rfl
          try simp only [Act.put, List.setIfInBounds_toArray, List.set_cons_zero, List.set_cons_succ]
          refine tk 2 ?_ rfl (.inl ⟨by rfl, ?_⟩) ?_
          rotate_left
          · intro W hSw; go_simp; try with_reducible rfl
          try simp only [Act.put, List.setIfInBounds_toArray, List.set_cons_zero, List.set_cons_succ]
          refine tk 3 ?_ rfl (.inl ⟨by rfl, ?_⟩) ?_
          rotate_left
          · intro W hSw; obtain ⟨z0, z1, z2, z3⟩ := FQ.out W hSw; go_simp; try with_reducible rfl
          try simp only [Act.put, List.setIfInBounds_toArray, List.set_cons_zero, List.set_cons_succ]
          refine tk 5 ?_ rfl (.inl ⟨by rfl, ?_⟩) ?_
          rotate_left
          · intro W hSw; go_simp; try with_reducible rfl
          try simp only [Act.put, List.setIfInBounds_toArray, List.set_cons_zero, List.set_cons_succ]
          refine tk 6 ?_ rfl (.inl ⟨by rfl, ?_⟩) ?_
          rotate_left
          · intro W hSw; obtain ⟨z0, z1, z2, z3⟩ := FQ.out W hSw; go_simp; try with_reducible rfl
          try simp only [Act.put, List.setIfInBounds_toArray, List.set_cons_zero, List.set_cons_succ]
          refine tk 8 ?_ rfl (.inl ⟨by rfl, ?_⟩) ?_
          rotate_left
          · intro W hSw; go_simp; try with_reducible rfl
          try simp only [Act.put, List.setIfInBounds_toArray, List.set_cons_zero, List.set_cons_succ]
          refine tk 9 ?_ rfl (.inl ⟨by rfl, ?_⟩) ?_
          rotate_left
          · intro W hSw; obtain ⟨z0, z1, z2, z3⟩ := FQ.out W hSw; go_simp; try with_reducible rfl
          try simp only [Act.put, List.setIfInBounds_toArray, List.set_cons_zero, List.set_cons_succ]
          refine wpAnyH_ready (rs := [1]) (by kernel_rfl) (by simp) ?_
          refine AllReadyH.cons (o := { dst := some 57, op := Op.call { callee := Callee.value (Operand.func 79), args := #[Operand.tmp 56], argTypes := #[2] }, type := 22, pos := "forms.go:166", after := #[{ on := 0, ground := Ground.data }], guard := none }) rfl (fun K hK => ?_) AllReadyH.nil
          go_simp
          refine (putnumber_own i (by omega) _).mono ?_; rintro e9 w3 ⟨a3, c3, rfl, ho3, hl3, hb3⟩; have HA := Lib.hid hl3.ls
          go_wp2_with fail
          refine hK.out _ _ (step_below hHeld hb3) (fun hHeldn => ?_)
          clear hK K hHeld; have hHeld := hHeldn; clear hHeldn
          clear ho3 hl3 hb3
          try simp only [Act.put, List.setIfInBounds_toArray, List.set_cons_zero, List.set_cons_succ]
          refine wpAnyH_ready (rs := [4]) (by kernel_rfl) (by simp) ?_
          refine AllReadyH.cons (o := { dst := some 60, op := Op.call { callee := Callee.value (Operand.func 80), args := #[Operand.tmp 59], argTypes := #[22] }, type := 22, pos := "forms.go:166", after := #[{ on := 3, ground := Ground.data }, { on := 1, ground := Ground.chain }], guard := none }) rfl (fun K hK => ?_) AllReadyH.nil
          go_simp
          refine (bytes_own x.ka x.key x.key.length x.kc rfl (by have := HX2.out.k; omega) _ (HOK1.out.ls.below hHeld)).mono ?_; rintro e9 w4 ⟨a4, c4, rfl, ho4, hl4, hb4⟩; have HC := Lib.hid hl4.ls; have HB4 := Lib.hid hb4
          go_wp2_with fail
          refine hK.out _ _ (step_below hHeld hb4) (fun hHeldn => ?_)
          clear hK K hHeld; have hHeld := hHeldn; clear hHeldn
          clear ho4 hl4 hb4
          try simp only [Act.put, List.setIfInBounds_toArray, List.set_cons_zero, List.set_cons_succ]
          refine wpAnyH_ready (rs := [7]) (by kernel_rfl) (by simp) ?_
          refine AllReadyH.cons (o := { dst := some 63, op := Op.call { callee := Callee.value (Operand.func 81), args := #[Operand.tmp 62], argTypes := #[49] }, type := 22, pos := "forms.go:166", after := #[{ on := 6, ground := Ground.data }, { on := 4, ground := Ground.chain }], guard := none }) rfl (fun K hK => ?_) AllReadyH.nil
          go_simp
          refine (putrow81_own x.ra x.R x.R.length x.rc rfl HX2.out.r (by have := rowbytes_len HX2.out.r; omega) _ (HOK1.out.row.below hHeld)).mono ?_; rintro e9 w5 ⟨a5, c5, rfl, ho5, hl5, hb5⟩; have HD := Lib.hid hl5.ls; have HB5 := Lib.hid hb5
          go_wp2_with fail
          refine hK.out _ _ (step_below hHeld hb5) (fun hHeldn => ?_)
          clear hK K hHeld; have hHeld := hHeldn; clear hHeldn
          clear ho5 hl5 hb5
          try simp only [Act.put, List.setIfInBounds_toArray, List.set_cons_zero, List.set_cons_succ]
          refine wpAnyH_ready (rs := [10]) (by kernel_rfl) (by simp) ?_
          refine AllReadyH.cons (o := { dst := some 66, op := Op.call { callee := Callee.value (Operand.func 57), args := #[Operand.tmp 65], argTypes := #[36] }, type := 22, pos := "forms.go:166", after := #[{ on := 9, ground := Ground.data }, { on := 7, ground := Ground.chain }], guard := none }) rfl (fun K hK => ?_) AllReadyH.nil
          go_simp
          refine (puttid_own xe xs (by omega) (by omega) _).mono ?_; rintro e9 w6 ⟨a6, c6, rfl, ho6, hl6, hb6⟩; have HE := Lib.hid hl6.ls; have HB6 := Lib.hid hb6
          go_wp2_with fail
          refine hK.out _ _ (step_below hHeld hb6) (fun hHeldn => ?_)
          clear hK K hHeld; have hHeld := hHeldn; clear hHeldn
          clear ho6 hl6 hb6
          have hfl : flat [⟨a3, c3, numW i⟩, ⟨a4, c4, bytesW x.key⟩, ⟨a5, c5, bytesW (putL bsW x.R)⟩, ⟨a6, c6, tidW xe xs⟩] = stW i x := (by simp [flat, stW, HES.out.1, HES.out.2]); have hRR := rdR_new w6 [⟨a3, c3, numW i⟩, ⟨a4, c4, bytesW x.key⟩, ⟨a5, c5, bytesW (putL bsW x.R)⟩, ⟨a6, c6, tidW xe xs⟩] #[.slice a3 (numW i).length c3, .slice a4 (bytesW x.key).length c4, .slice a5 (bytesW (putL bsW x.R)).length c5, .slice a6 (tidW xe xs).length c6] 22 (0, 0) (by simp only [List.map_cons, List.map_nil, P1.v]) (by intro p hp; simp only [List.mem_cons, List.not_mem_nil, or_false] at hp; rcases hp with rfl | rfl | rfl | rfl; exact (((HA.out.below HB4.out).below HB5.out).below HB6.out); exact ((HC.out.below HB5.out).below HB6.out); exact (HD.out.below HB6.out); exact HE.out); have hj := join_own (some ⟨w6.heap.size, 0, none⟩) _ 4 4 rfl (by omega) (by rw [hfl]; have := HSL.out.2; omega) _ hRR; rw [hfl] at hj; have HJ := Lib.hid hj; clear hj hRR hfl
          try simp only [Act.put, List.setIfInBounds_toArray, List.set_cons_zero, List.set_cons_succ]
          refine wpAnyH_ready (rs := [11]) (by kernel_rfl) (by simp) ?_
          refine AllReadyH.cons (o := { dst := some 67, op := Op.buildSlice 27 4 #[(0, Operand.tmp 57), (1, Operand.tmp 60), (2, Operand.tmp 63), (3, Operand.tmp 66)], type := 27, pos := "forms.go:166", after := #[{ on := 1, ground := Ground.data }, { on := 4, ground := Ground.data }, { on := 7, ground := Ground.data }, { on := 10, ground := Ground.data }], guard := none }) rfl (fun K hK => ?_) AllReadyH.nil
          go_simp
          refine hK.out _ _ (hHeld.alloc hHeld.size _) (fun hHeldn => ?_)
          clear hK K hHeld; have hHeld := hHeldn; clear hHeldn
          try simp only [Act.put, List.setIfInBounds_toArray, List.set_cons_zero, List.set_cons_succ]
          refine wpAnyH_ready (rs := [12]) (by kernel_rfl) (by simp) ?_
          refine AllReadyH.cons (o := { dst := some 68, op := Op.call { callee := Callee.value (Operand.func 49), args := #[Operand.tmp 67], argTypes := #[27] }, type := 22, pos := "forms.go:166", after := #[{ on := 11, ground := Ground.data }, { on := 10, ground := Ground.chain }], guard := none }) rfl (fun K hK => ?_) AllReadyH.nil
          go_simp
          refine (HJ.out).mono ?_; rintro e9 w7 ⟨a7, c7, rfl, hl7, ho7, hb7⟩; have HFR := Lib.hid (frame_ok a7 (stW i x) (stW i x).length c7 rfl HSL.out.1 (Nat.le_trans HSL.out.2 (by omega)) HSY.out w7 hl7)
          go_wp2_with fail
          refine hK.out _ _ (step_below hHeld hb7) (fun hHeldn => ?_)
          clear hK K hHeld; have hHeld := hHeldn; clear hHeldn
          clear ho7 hl7 hb7
          try simp only [Act.put, List.setIfInBounds_toArray, List.set_cons_zero, List.set_cons_succ]
          refine wpAnyH_ready (rs := [13]) (by kernel_rfl) (by simp) ?_
          refine AllReadyH.cons (o := { dst := some 69, op := Op.call { callee := Callee.value (Operand.func 11), args := #[Operand.tmp 68], argTypes := #[22] }, type := 25, pos := "forms.go:166", after := #[{ on := 12, ground := Ground.data }, { on := 12, ground := Ground.chain }], guard := none }) rfl (fun K hK => ?_) AllReadyH.nil
          go_simp
          refine (HFR.out).mono ?_; rintro e9 w8 ⟨a8, c8, rfl, ho8, hl8, hb8⟩; have HO8 := Lib.hid hl8
          go_wp2_with fail
          refine hK.out _ _ (step_below hHeld hb8) (fun hHeldn => ?_)
          clear hK K hHeld; have hHeld := hHeldn; clear hHeldn
          clear ho8 hl8 hb8
          try simp only [Act.put, List.setIfInBounds_toArray, List.set_cons_zero, List.set_cons_succ]
          refine tk 14 ?_ rfl (.inl ⟨by rfl, ?_⟩) ?_
          rotate_left
          · intro W hSw; go_simp; try with_reducible rfl
          try simp only [Act.put, List.setIfInBounds_toArray, List.set_cons_zero, List.set_cons_succ]
          refine tk 15 ?_ rfl (.inl ⟨by rfl, ?_⟩) ?_
          rotate_left
          · intro W hSw; go_simp; try with_reducible rfl
          try simp only [Act.put, List.setIfInBounds_toArray, List.set_cons_zero, List.set_cons_succ]
          refine tk 16 ?_ rfl (.inl ⟨by rfl, ?_⟩) ?_
          rotate_left
          · intro W hSw; go_simp; try with_reducible rfl
          try simp only [Act.put, List.setIfInBounds_toArray, List.set_cons_zero, List.set_cons_succ]
          refine tk 17 ?_ rfl (.inl ⟨by rfl, ?_⟩) ?_
          rotate_left
          · intro W hSw; go_simp; try with_reducible rfl
          try simp only [Act.put, List.setIfInBounds_toArray, List.set_cons_zero, List.set_cons_succ]
          refine tk 18 ?_ rfl (.inl ⟨by rfl, ?_⟩) ?_
          rotate_left
          · intro W hSw; go_simp; try with_reducible rfl
          try simp only [Act.put, List.setIfInBounds_toArray, List.set_cons_zero, List.set_cons_succ]
          refine wpAnyH_done (by kernel_rfl) ?_ _
          skip
          refine hKK _ _ ?_
          have HB8 := Lib.hid (step_below HB1.out hHeld)
          have HP8 := Lib.hid (own_below HP1.out hHeld)
          clear hKK hHeld FQ HJ HFR HA HC HD HE HB4 HB5 HB6
          obtain ⟨X, hX⟩ : ∃ X, frameL (stW i x) = X := ⟨_, rfl⟩
          have hxl0 : X.length = 8 + (stW i x).length := by rw [← hX]; exact frameL_len _
          have hsl2 := HSL.out.2
          rw [hX] at HO8 HRN
          obtain ⟨xl, hxl⟩ : ∃ xl, 8 + (stW i x).length = xl := ⟨_, rfl⟩
          rw [hxl] at hxl0 ⊢
          have HXL := Lib.hid hxl0
          obtain ⟨RW, hRW⟩ : ∃ RW, rowsW i t.xs k = RW := ⟨_, rfl⟩
          rw [hRW] at hrl HP8 HRN
          obtain ⟨rl, hrl2⟩ : ∃ rl, RW.length = rl := ⟨_, rfl⟩
          have HRL := Lib.hid hrl2
          rw [hrl2] at hrl HP8
          have hsum : fh + tl + rl + xl ≤ 1048576 := by
            have : 202 * (k + 1) ≤ 202 * m := Nat.mul_le_mul_left _ hkm
            omega
          have hs8 := HB8.out.size
          clear hX hxl hxl0 hsl2 hRW hrl2 hrl
          go_wp2_with (at_builtin; refine append_ls eltB rfl (.tmp 72) (.tmp 73) rfl w.heap.size _ (fh + tl + rl) (iv .u8 (FH ++ TW ++ RW)) rfl HP8.out _ _ xl X HXL.out rfl HO8.out hsum hs8 ?_; intro v2 w9 hown2 hgrow2; rw [← iv_append, List.append_assoc (FH ++ TW), ← HRN.out] at hown2; have HP9 := Lib.hid hown2; have HB9 := Lib.hid (HB8.out.grown hgrow2 hs8 (fun j hj => (HP8.out.lt j hj).1)); clear hown2 hgrow2)
          go_roundw
          case rel => exact ⟨k + 1, by omega, by go_num, by rw [HRN.out, List.length_append, HRL.out, HXL.out, ← Nat.add_assoc, ← HRN.out]; exact HP9, HB9⟩
          case measure => simp [intOf]; omega
        · obtain rfl : k = m := by omega
          have d2 : ¬ (k : Int) < (k : Int) := by omega
          have HP2 := Lib.hid (show wr.ownsRow w.heap.size 5 1 _ (fh + (tabsW ts (i + 1)).length) (iv .u8 (FH ++ tabsW ts (i + 1))) by rw [HT.out.1, List.length_append, HTW.out, ← Nat.add_assoc, ← List.append_assoc]; exact HP.out)
          go_wp2_with fail
          go_roundw
          case rel => exact ⟨i + 1, by omega, by go_num, HP2, HBX⟩
          case measure => simp [intOf]; omega
    · obtain rfl : i = n := by omega
      have d2 : ¬ (i : Int) < (i : Int) := by omega
      have hl9 : fh + (tabsW ts i).length = (ckW e ts).length := by rw [HFH.out.2, List.length_append, HFH.out.1]
      have ho9 := HO.out
      rw [hl9, ← HFH.out.2] at ho9
      obtain ⟨a9, c9, hv9, hl99⟩ := own_lsb ho9 rfl
      subst hv9
      have HO9 := Lib.hid ho9
      have HL9 := Lib.hid hl99.ls
      obtain ⟨cl, hcl⟩ : ∃ cl, (ckW e ts).length = cl := ⟨_, rfl⟩
      have HCL9 := Lib.hid hcl
      rw [hcl] at HO9 ⊢
      clear hl9 ho9 hl99 hcl
      go_wp2_with fail
      go_ret2
      refine ⟨.inr (.inr ⟨HB.out.1, ?_, a9, c9, ?_, ?_, HL9.out⟩), HBW.out⟩
      · rw [HB.out.2, HS.out]; omega
      · rw [Int.toNat_natCast, HCL9.out]; rfl
      · rw [Int.toNat_natCast, HCL9.out]; exact HO9.out
theorem TabsO.nil (w : World) (base : Nat) : TabsO w base [] (.slice none 0 0) := ⟨World.ownsRow_nil _ _ _ _, fun t ht => by simp at ht, fun t ht => by simp at ht⟩
theorem TabsO.snoc {w w' : World} {base n : Nat} {ts : List TbP} {t : TbP} {v v' : Value} (h : TabsO w base ts v) (hn : ts.length = n) (ht : w.ownsRow base 59 4 t.v t.xs.length (scells t.xs)) (hx : ∀ x ∈ t.xs, StOw w base x)
    (h' : w'.ownsRow base 57 1 v' (n + 1) (ts.map TbP.v ++ [t.v])) (g : w.grownBy w' v.ownBlock) : TabsO w' base (ts ++ [t]) v' := by
  refine ⟨by rw [List.length_append, hn, List.map_append]; exact h', fun u hu => ?_, fun u hu x hxu => ?_⟩
  · rcases List.mem_append.1 hu with hu | hu
    · exact (h.tabs u hu).kept g (own_apart (h.tabs u hu) h.row (by decide))
    · simp only [List.mem_singleton] at hu
      subst hu
      exact ht.kept g (own_apart ht h.row (by decide))
  · rcases List.mem_append.1 hu with hu | hu
    · exact (h.all u hu x hxu).kept h.row (by decide) (by decide) g
    · simp only [List.mem_singleton] at hu
      subst hu
      exact (hx x hxu).kept h.row (by decide) (by decide) g
theorem listP_inv {α : Type} {most : Nat} {one : List Int → Option (α × List Int)} {put : α → List Int} (h1 : ∀ L x s, (∀ y ∈ L, 0 ≤ y ∧ y ≤ 255) → one L = some (x, s) → L = put x ++ s) {L r : List Int} {xs : List α} (hb : Byt L) (h : listP most one L = some (xs, r)) : xs.length ≤ most ∧ L = putL put xs ++ r := by
  unfold listP at h
  cases hu : upP most L with
  | none => rw [hu] at h; cases h
  | some q =>
    obtain ⟨n, s⟩ := q
    rw [hu] at h
    obtain ⟨k1, k2⟩ := upP_inv hb hu
    obtain ⟨m1, m2⟩ := manyP_inv h1 n s r xs (upP_rest hb hu) h
    refine ⟨by omega, ?_⟩
    unfold putL
    rw [k2, m2, m1, List.append_assoc]
theorem rowP_inv {L : List Int} {fs : List (List Int)} (hb : Byt L) (h : rowP L = some fs) : L = putL bytesW fs ∧ 1 ≤ fs.length := by
  unfold rowP at h
  cases hl : listP 3 (bytesP 24) L with
  | none => rw [hl] at h; cases h
  | some q =>
    obtain ⟨gs, r⟩ := q
    rw [hl] at h
    simp only at h
    split at h
    · rename_i hc
      cases h
      obtain ⟨rfl, hm⟩ := hc
      have := (listP_inv (put := bytesW) (fun L x s hb h => (bytesP_inv hb h).2) hb hl).2
      unfold mayF at hm
      rw [Bool.and_eq_true] at hm
      exact ⟨by rw [List.append_nil] at this; exact this, (of_decide_eq_true hm.2).1⟩
    · cases h
theorem frames_len : ∀ (n : Nat) (L : List Int), L.length ≤ n → ∀ p ∈ framesL L, 1 ≤ p.length ∧ p.length ≤ 4096
  | n, L, hn, p, hp => by
    cases hi : isL L with
    | false => rw [framesL_no hi] at hp; simp at hp
    | true =>
      have h1 := isL_iff.1 hi
      have h2 := bodyL_len hi
      match n with
      | 0 => omega
      | n + 1 =>
        rw [framesL_yes hi] at hp
        rcases List.mem_cons.1 hp with rfl | hp
        · omega
        · exact frames_len n (L.drop (8 + lenL L)) (by rw [List.length_drop]; omega) p hp
theorem bytesP_up {m k : Nat} {L b r : List Int} (h : bytesP m L = some (b, r)) (hmk : m ≤ k) : bytesP k L = some (b, r) := by
  unfold bytesP upP at h ⊢
  cases hn : numR 0 0 L with
  | none => rw [hn] at h; cases h
  | some p =>
    obtain ⟨u, j⟩ := p
    rw [hn] at h
    simp only at h ⊢
    by_cases hu : u ≤ m
    · rw [if_pos hu] at h
      rw [if_pos (Nat.le_trans hu hmk)]
      exact h
    · rw [if_neg hu] at h; cases h
theorem rowW_80 {fs : List (List Int)} (h : mayF fs = true) : (putL bytesW fs).length ≤ 80 := by
  unfold mayF at h
  rw [Bool.and_eq_true] at h
  have h3 := of_decide_eq_true h.2
  have h4 : ∀ f ∈ fs, f.length ≤ 24 := fun f hf => of_decide_eq_true (List.all_eq_true.1 h.1 f hf)
  unfold putL
  have h5 := flat_bound bytesW 25 fs (fun f hf => by
    unfold bytesW
    have := h4 f hf
    rw [List.length_append, numW_small (by omega)]
    simp only [List.length_singleton]
    omega)
  rw [List.length_append, numW_small (by omega)]
  have h7 : fs.length * 25 ≤ 3 * 25 := Nat.mul_le_mul_right 25 h3.2
  simp only [List.length_singleton]
  omega
theorem rowP_may {b : List Int} {fs : List (List Int)} (h : rowP b = some fs) : mayF fs = true := by
  unfold rowP at h
  cases hl : listP 3 (bytesP 24) b with
  | none => rw [hl] at h; cases h
  | some q =>
    obtain ⟨xs, r⟩ := q
    rw [hl] at h
    simp only at h
    split at h
    · rename_i hc; cases h; exact hc.2
    · cases h
/-- A row's bytes: at most 80 serve. -/
theorem arow_80 {R : List Int} (hb : Byt R) : arowP R = match bytesP 80 R with
    | some (b, r) => (match rowP b with | some fs => some (fs, r) | none => none)
    | none => none := by
  cases h : bytesP 80 R with
  | some p =>
    obtain ⟨b, r⟩ := p
    unfold arowP
    rw [bytesP_up h (by decide : 80 ≤ 4096)]
    rfl
  | none =>
    simp only
    cases ha : arowP R with
    | none => rfl
    | some q =>
      exfalso
      obtain ⟨fs, r⟩ := q
      unfold arowP at ha
      cases h2 : bytesP 4096 R with
      | none => rw [h2] at ha; cases ha
      | some p =>
        obtain ⟨b, r2⟩ := p
        rw [h2] at ha
        simp only at ha
        cases hr : rowP b with
        | none => rw [hr] at ha; cases ha
        | some fs2 =>
          obtain ⟨e1, e2⟩ := bytesP_inv hb h2
          have hbb : Byt b := fun x hx => hb x (by rw [e2]; unfold bytesW; simp [hx])
          have e3 := (rowP_inv hbb hr).1
          have h80 := rowW_80 (rowP_may hr)
          rw [← e3] at h80
          rw [e2, bytesP_W h80 (by decide)] at h
          cases h
def RwQ (W : World) (B : Nat) (R : List Int) (r : Ending) (w' : World) : Prop :=
  ((arowP R = none ∧ r = .returned (.tuple #[.slice none 0 0, .bool false]) ∧ ∃ R', RqS w' B R') ∨
    ∃ (fs : List (List Int)) (R' : List Int) (v : Value), arowP R = some (fs, R') ∧ r = .returned (.tuple #[v, .bool true]) ∧ RowsO w' W.heap.size fs v ∧ RqS w' B R') ∧ W.grownBy w' (some B)
set_option maxRecDepth 100000 in
set_option maxHeartbeats 4000000 in
/-- row (126). -/
theorem rowq_law {W : World} {B : Nat} {R : List Int} (h : RqS W B R) : Calls Tryz.prog 126 #[.pointer (some ⟨B, 0, none⟩)] W (RwQ W B R) := by
  have HB := Lib.hid (bytesq_law h 80 (by decide))
  have HA := Lib.hid (arow_80 h.byt)
  have HY := Lib.hid h.byt
  clear h
  go_enter Tryz.func126, Tryz.ntmps126
  go_wp2_with fail
  refine HB.out.mono ?_
  rintro r w1 ⟨⟨h1, ⟨er, her, rfl⟩, h2⟩ | ⟨b, R', a, c, h1, rfl, h2, h3⟩, g⟩
  · have HX := Lib.hid (show arowP R = none by rw [HA.out, h1])
    have H := Lib.hid (And.intro h2 g)
    have hne : (er != 0) = true := by rcases her with rfl | rfl <;> rfl
    clear h1 h2 her g
    go_wp2_with fail
    go_ret2
    exact ⟨.inl ⟨HX.out, rfl, _, H.out.1⟩, H.out.2⟩
  · have hbb : Byt b ∧ b.length ≤ 80 := by
      obtain ⟨e1, e2⟩ := bytesP_inv HY.out h1
      exact ⟨fun x hx => HY.out x (by rw [e2]; unfold bytesW; simp [hx]), e1⟩
    obtain ⟨_, _, e, hl, _⟩ := own_ls h2 rfl
    cases e
    have HRD := Lib.hid (readq_law a b b.length c rfl (by omega) hbb.1 w1 hl)
    have HX := Lib.hid (show arowP R = match rowP b with | some fs => some (fs, R') | none => none by rw [HA.out, h1])
    have H := Lib.hid (And.intro h3 g)
    obtain ⟨bl, hbl⟩ : ∃ bl, b.length = bl := ⟨_, rfl⟩
    rw [hbl] at HRD ⊢
    clear h1 h2 h3 g hl hbb hbl
    go_wp2_with fail
    refine HRD.out.mono ?_
    rintro r w2 ⟨⟨e1, rfl⟩ | ⟨fs, v, e1, rfl, hv⟩, hb2⟩
    · have HX2 := Lib.hid (show arowP R = none by rw [HX.out, e1])
      have H2 := Lib.hid (And.intro (H.out.1.below hb2) (oth_trans H.out.2 (oth_below B hb2)))
      clear e1 hb2
      go_wp2_with fail
      go_ret2
      exact ⟨.inl ⟨HX2.out, rfl, _, H2.out.1⟩, H2.out.2⟩
    · have HX2 := Lib.hid (show arowP R = some (fs, R') by rw [HX.out, e1])
      have H2 := Lib.hid (And.intro (H.out.1.below hb2) (oth_trans H.out.2 (oth_below B hb2)))
      have HV := Lib.hid (hv.base H.out.2.size)
      clear e1 hb2 hv
      go_wp2_with fail
      go_ret2
      exact ⟨.inr ⟨fs, R', v, HX2.out, rfl, HV.out, H2.out.1⟩, H2.out.2⟩
/-- What small answers, in one form. -/
def SmB (W : World) (B : Nat) (R : List Int) (most : Nat) (r : Ending) (w' : World) : Prop :=
  ∃ (z : Int) (ok : Bool) (R' : List Int), r = .returned (.tuple #[.int .i64 z, .bool ok]) ∧ RqS w' B R' ∧ W.grownBy w' (some B) ∧ (ok = true → ∃ x : Nat, upP most R = some (x, R') ∧ z = (x : Int) ∧ x ≤ most) ∧ (ok = false → upP most R = none)
theorem smallb_law {W : World} {B : Nat} {R : List Int} (h : RqS W B R) (most : Nat) (hm : most ≤ 2147483647) :
    Calls Tryz.prog 88 #[.pointer (some ⟨B, 0, none⟩), .int .i64 (most : Int)] W (SmB W B R most) := by
  refine (small_law h most hm).mono ?_
  rintro r w' ⟨⟨e1, ⟨z, rfl⟩, R', hr⟩ | ⟨x, R', e1, hx, rfl, hr⟩, g⟩
  · exact ⟨z, false, R', rfl, hr, g, fun h => (by cases h), fun _ => e1⟩
  · exact ⟨(x : Int), true, R', rfl, hr, g, fun _ => ⟨x, e1, rfl, hx⟩, fun h => (by cases h)⟩
/-- What the document's Bytes answers, in one form. -/
def BytB (W : World) (B : Nat) (R : List Int) (most : Nat) (r : Ending) (w' : World) : Prop :=
  ∃ (b : List Int) (bl : Nat) (a : Option Addr) (c : Nat) (e : Int) (R' : List Int), r = .returned (.tuple #[.slice a bl c, .int .i64 e]) ∧ b.length = bl ∧ bl ≤ most ∧ Byt b ∧ w'.ownsRow W.heap.size 5 1 (.slice a bl c) bl (iv .u8 b) ∧ RqS w' B R' ∧ W.grownBy w' (some B) ∧ (e = 0 → bytesP most R = some (b, R')) ∧ (e ≠ 0 → bytesP most R = none) ∧ (e = 0 ∨ e = 3 ∨ e = 4)
theorem bytesb_law {W : World} {B : Nat} {R : List Int} (h : RqS W B R) (most : Nat) (hm : most ≤ 1000000) :
    Calls Tryz.prog 104 #[.pointer (some ⟨B, 0, none⟩), .int .i64 (most : Int)] W (BytB W B R most) := by
  have hy := h.byt
  refine (bytesq_law h most hm).mono ?_
  rintro r w' ⟨⟨h1, ⟨e, he, rfl⟩, h2⟩ | ⟨b, R', a, c, h1, rfl, h2, h3⟩, g⟩
  · exact ⟨[], 0, none, 0, e, R, rfl, rfl, Nat.zero_le _, fun x hx => by simp at hx, World.ownsRow_nil _ _ _ _, h2, g, fun h => (by rcases he with rfl | rfl <;> cases h), fun _ => h1, .inr he⟩
  · obtain ⟨e1, e2⟩ := bytesP_inv hy h1
    exact ⟨b, b.length, a, c, 0, R', rfl, rfl, e1, fun x hx => hy x (by rw [e2]; unfold bytesW; simp [hx]), h2, h3, g, fun _ => h1, fun h => absurd rfl h, .inl rfl⟩
/-- What row answers, in one form. -/
def RwB (W : World) (B : Nat) (R : List Int) (r : Ending) (w' : World) : Prop :=
  ∃ (fs : List (List Int)) (fl : Nat) (a : Option Addr) (c : Nat) (ok : Bool) (R' : List Int), r = .returned (.tuple #[.slice a fl c, .bool ok]) ∧ fs.length = fl ∧ RowsO w' W.heap.size fs (.slice a fl c) ∧ RqS w' B R' ∧ W.grownBy w' (some B) ∧ (ok = true → arowP R = some (fs, R')) ∧ (ok = false → arowP R = none)
theorem rowb_law {W : World} {B : Nat} {R : List Int} (h : RqS W B R) :
    Calls Tryz.prog 126 #[.pointer (some ⟨B, 0, none⟩)] W (RwB W B R) := by
  refine (rowq_law h).mono ?_
  rintro r w' ⟨⟨h1, rfl, R', h2⟩ | ⟨fs, R', v, h1, rfl, h2, h3⟩, g⟩
  · exact ⟨[], 0, none, 0, false, R', rfl, rfl, RowsO.nil _ _, h2, g, fun h => (by cases h), fun _ => h1⟩
  · obtain ⟨a, c, R1, rfl, _, _⟩ := h2.rdr
    exact ⟨fs, fs.length, a, c, true, R', rfl, rfl, h2, h3, g, fun _ => h1, fun h => (by cases h)⟩
/-- A result's box (N), a reader's (B), a variable's (D), while a thing is read. -/
structure BxI (w : World) (B D : Nat) (R : List Int) (zs cs : Array Value) (t : TypeId) (W : World) : Prop where
  bel : Below w.heap.size w W
  bx : BoxC W w.heap.size zs t
  bd : BoxC W D cs t
  rd : RqS W B R
  l1 : w.heap.size < B
  l2 : B < D
theorem BxI.step {w W W' : World} {B D : Nat} {R R' : List Int} {zs cs : Array Value} {t : TypeId} (h : BxI w B D R zs cs t W) (g : W.grownBy W' (some B)) (hr : RqS W' B R') : BxI w B D R' zs cs t W' :=
  ⟨below_oth h.bel g h.bel.size (Nat.le_of_lt h.l1), h.bx.gr g (Nat.ne_of_lt h.l1), h.bd.gr g (Nat.ne_of_gt h.l2), hr, h.l1, h.l2⟩
theorem BxI.below {w W W' : World} {B D : Nat} {R : List Int} {zs cs : Array Value} {t : TypeId} (h : BxI w B D R zs cs t W) (b : Below W.heap.size W W') : BxI w B D R zs cs t W' :=
  ⟨step_below h.bel b, h.bx.below b, h.bd.below b, h.rd.below b, h.l1, h.l2⟩
theorem BxI.put {w W : World} {B D : Nat} {R : List Int} {zs cs : Array Value} {t : TypeId} (h : BxI w B D R zs cs t W) (i : Nat) (v : Value) : BxI w B D R zs (cs.setIfInBounds i v) t (W.setCell ⟨D, i, none⟩ v) := by
  have l1 := h.l1
  have l2 := h.l2
  refine ⟨h.bel.setCell (p := ⟨D, i, none⟩) (by simp; omega) v, h.bx.oth (by omega), h.bd.put i v, h.rd.below1 ?_, h.l1, h.l2⟩
  exact (Below.refl (B + 1) W).setCell (p := ⟨D, i, none⟩) (by simp; omega) v
/-- .. begins. -/
theorem BxI.new {w W1 W2 : World} {B : Nat} {R : List Int} {zs : Array Value} {t : TypeId} (hb1 : Below w.heap.size w W1) (hx : BoxC W1 w.heap.size zs t) (hb2 : Below W1.heap.size W1 W2) (hB : W1.heap.size ≤ B) (hr : RqS W2 B R) : BxI w B W2.heap.size R zs zs t (W2.alloc (.cells zs t)) :=
  ⟨step_below (step_below hb1 hb2) (bl1 _ _), (hx.below hb2).alloc _, BoxC.new _ _ _, hr.below (bl1 _ _), Nat.lt_of_lt_of_le hx.lt hB, hr.lt⟩
theorem u8_of {x : Int} (h : 0 ≤ x ∧ x ≤ 255) : (UInt8.ofNat x.toNat).toNat = x.toNat := by
  rw [UInt8.toNat_ofNat']
  exact Nat.mod_eq_of_lt (by omega)
theorem bytesLess_cmp : ∀ (a b : List Int), Byt a → Byt b → Op.bytesLess (a.map fun n => UInt8.ofNat n.toNat) (b.map fun n => UInt8.ofNat n.toNat) = decide (cmpI a b < 0)
  | [], [], _, _ => rfl
  | [], _ :: _, _, _ => rfl
  | _ :: _, [], _, _ => rfl
  | x :: r, y :: s, ha, hb => by
    have hx := ha x (by simp)
    have hy := hb y (by simp)
    have ih := bytesLess_cmp r s (fun z hz => ha z (by simp [hz])) (fun z hz => hb z (by simp [hz]))
    show (decide (UInt8.ofNat x.toNat < UInt8.ofNat y.toNat) || (UInt8.ofNat x.toNat == UInt8.ofNat y.toNat && Op.bytesLess (r.map fun n => UInt8.ofNat n.toNat) (s.map fun n => UInt8.ofNat n.toNat))) = decide ((if x < y then -1 else if y < x then 1 else cmpI r s) < 0)
    have h1 : (UInt8.ofNat x.toNat < UInt8.ofNat y.toNat) ↔ x < y := by
      rw [UInt8.lt_iff_toNat_lt, u8_of hx, u8_of hy]; omega
    have h2 : (UInt8.ofNat x.toNat == UInt8.ofNat y.toNat) = decide (x = y) := by
      rw [Bool.eq_iff_iff]
      simp only [beq_iff_eq, decide_eq_true_eq]
      rw [← UInt8.toNat_inj, u8_of hx, u8_of hy]; omega
    rw [h2, ih]
    by_cases hlt : x < y
    · rw [if_pos hlt, decide_eq_true (h1.2 hlt)]; simp
    · rw [if_neg hlt, decide_eq_false (fun h => hlt (h1.1 h))]
      by_cases hgt : y < x
      · rw [if_pos hgt, decide_eq_false (by omega)]; simp
      · rw [if_neg hgt, decide_eq_true (by omega)]; simp
theorem less_str {a b : List Int} (ha : Byt a) (hb : Byt b) : Op.bytesLess (strOfNums a).toList (strOfNums b).toList = decide (cmpI a b < 0) := by
  rw [ByteArray.toList_eq, ByteArray.toList_eq, strOfNums_data, strOfNums_data]
  exact bytesLess_cmp a b ha hb
theorem up3_some {L r : List Int} {t : Nat} (h : upP 3 L = some (t, r)) : upP 4 L = some (t, r) ∧ t ≤ 3 := by
  unfold upP at h ⊢
  cases hn : numR 0 0 L with
  | none => rw [hn] at h; cases h
  | some p =>
    obtain ⟨v, j⟩ := p
    rw [hn] at h
    simp only at h ⊢
    by_cases hv : v ≤ 3
    · rw [if_pos hv] at h
      cases h
      exact ⟨by rw [if_pos (by omega)], hv⟩
    · rw [if_neg hv] at h; cases h
theorem up3_none {L : List Int} (h : upP 3 L = none) : upP 4 L = none ∨ ∃ t r, upP 4 L = some (t, r) ∧ 3 < t := by
  unfold upP at h ⊢
  cases hn : numR 0 0 L with
  | none => exact .inl rfl
  | some p =>
    obtain ⟨v, j⟩ := p
    rw [hn] at h
    simp only at h ⊢
    by_cases hv : v ≤ 3
    · rw [if_pos hv] at h; cases h
    · by_cases h4 : v ≤ 4
      · rw [if_pos h4]; exact .inr ⟨v, _, rfl, by omega⟩
      · rw [if_neg h4]; exact .inl rfl
end Go.Proofs.YtglkndoghnblcaaGreat
