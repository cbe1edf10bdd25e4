/- Lists of places: read, compared, cut, each by a contract. -/
import Derived.Test.YtochdmdojcfceaaIter
import Derived.Deep.QuietTactic
import Derived.BigQuiet
import Derived.Deep.RegionHeld3
namespace Go.Proofs.Ytochdmdojcfceaa
open Go.ChangeShapes Go.WideShapes Go.ChangeAt Go.RowKit Go.Shelf
open PM
set_option linter.unusedVariables false
set_option linter.unusedSimpArgs false

/-- A list of numbers that lies somewhere. -/
def Rd (W : World) (a : Option Addr) (L : List Int) : Prop := ∀ k < L.length, ∃ b off, a = some ⟨b, off, none⟩ ∧ W.cell? ⟨b, off + k, none⟩ = some (.int .i64 (L.getD k 0))
theorem Rd.below {W W' : World} {a : Option Addr} {L : List Int} (h : Rd W a L) (hb : Below W.heap.size W W') : Rd W' a L := fun k hk => by
  obtain ⟨b, off, e, hc⟩ := h k hk
  exact ⟨b, off, e, (hb.cell (p := ⟨b, off + k, none⟩) (World.block_lt_of_cell? W _ hc)).trans hc⟩
theorem Rd.nil (W : World) (a : Option Addr) : Rd W a [] := fun k hk => absurd hk (by simp)
theorem Rd.drop {W : World} {b off : Nat} {L : List Int} (h : Rd W (some ⟨b, off, none⟩) L) (s : Nat) : Rd W (some ⟨b, off + s, none⟩) (L.drop s) := fun k hk => by
  have hk' : s + k < L.length := by simpa using (show k < L.length - s by simpa using hk) |> fun h => (by omega : s + k < L.length)
  obtain ⟨b', off', e, hc⟩ := h (s + k) hk'
  cases e
  refine ⟨b, off + s, rfl, ?_⟩
  rw [Nat.add_assoc, hc]
  simp [List.getD, List.getElem?_drop]
def ints (l : List Nat) : List Int := l.map fun (x : Nat) => (x : Int)
theorem ints_length (l : List Nat) : (ints l).length = l.length := by simp [ints]
theorem ints_get (l : List Nat) (k : Nat) (h : k < l.length) : (ints l).getD k 0 = (l.getD k 0 : Nat) := by simp [ints, List.getD, h]
theorem ints_inj (a b : List Nat) : ints a = ints b ↔ a = b := by
  constructor
  · intro h
    unfold ints at h
    exact (List.map_inj_right fun x y e => by omega).1 h
  · intro h; rw [h]
theorem own_rd {w : World} {base n : Nat} {v : Value} {l : List Nat} (h : w.ownsRow base 3 1 v n (iv l)) (hn : l.length = n) : ∃ a cap, v = .slice a n cap ∧ n ≤ cap ∧ Rd w a (ints l) ∧ (0 < n → ∃ g, a = some ⟨g, 0, none⟩) := by
  have h' := h
  rcases h.2 with ⟨e, h0⟩ | ⟨g, cap, cur, rfl, hg, _, hc, _⟩
  · have : l = [] := List.length_eq_zero_iff.1 (by omega)
    subst this h0
    exact ⟨none, 0, e, Nat.le_refl _, Rd.nil _ _, fun h => absurd h (by simp)⟩
  · refine ⟨_, cap, rfl, hc, fun k hk => ⟨g, 0, rfl, ?_⟩, fun _ => ⟨g, rfl⟩⟩
    rw [ints_length] at hk
    rw [Nat.zero_add, h'.cellAt k (by omega), ints_get l k hk]
    simp [iv, List.getD, hk]

theorem seg_take (l : List Nat) (k : Nat) (h : k ≤ l.length) : (upl l k).map (·.2) = l.take k := by
  unfold upl
  rw [List.map_map]
  apply List.ext_getElem
  · simp; omega
  · intro i h1 h2
    simp at h1
    simp [List.getD, List.getElem?_eq_getElem (show i < l.length by omega)]
theorem usV_take (n : Nat) (l : List Nat) (h : Wrd n l) : usV n l = l.take (cV n l) := seg_take l _ (by have := cV_le h; rw [h.len]; exact this)
theorem usV_length (n : Nat) (l : List Nat) : (usV n l).length = cV n l := by simp [usV, upl_length]

/-- The list of what is used, as it may be read. -/
theorem used_rd (n : Nat) (l u : List Nat) (hu : usV n l = u) (h : Wrd n l) (w : World) :
    Calls Try.prog 19 #[.int .u64 ((enc (n :: l) : Nat) : Int)] w fun e w' => ∃ a cap, e = .returned (.slice a u.length cap) ∧ u.length ≤ cap ∧ Rd w' a (ints u) ∧ (0 < u.length → ∃ g, a = some ⟨g, 0, none⟩) ∧ (u.length = 0 → a = none ∧ cap = 0) ∧ Below w.heap.size w w' :=
  (used_law n l h w).mono fun e w' ⟨⟨v, he, hv, h0⟩, hb⟩ => by
    have hl := usV_length n l
    rw [hu] at hv hl
    obtain ⟨a, cap, e1, e2, e3, e4⟩ := own_rd hv hl
    subst e1
    exact ⟨a, cap, by rw [he, hl], by omega, e3, fun hh => e4 (by omega), fun hh => by have := h0 (by omega); simp only [Value.slice.injEq] at this; exact ⟨this.1, this.2.2⟩, hb⟩

theorem sameints_law (a b : Option Addr) (La Lb : List Int) (ca cb : Nat) (hla : La.length ≤ 1048576) (w : World) (hA : Rd w a La) (hB : Rd w b Lb) :
    Calls Try.prog 18 #[.slice a La.length ca, .slice b Lb.length cb] w fun e w' => e = .returned (.bool (decide (La = Lb))) ∧ Below w.heap.size w w' := by
  by_cases hl : La.length = Lb.length
  · have hne : ((La.length : Int) != (Lb.length : Int)) = false := by simp [hl]
    have HL := Lib.hid hl
    have HA := Lib.hid hA
    have HB := Lib.hid hB
    clear hl hA hB
    obtain ⟨lb, hlb⟩ : ∃ lb, Lb.length = lb := ⟨_, rfl⟩
    obtain ⟨la, hla2⟩ : ∃ la, La.length = la := ⟨_, rfl⟩
    have HLB := Lib.hid hlb
    have HLA := Lib.hid hla2
    rw [hlb] at hne ⊢
    rw [hla2] at hne hla ⊢
    clear hlb hla2
    go_enter Try.func18, Try.ntmps18
    go_wp2_with fail
    go_loopw [5] (fun i wr => ∃ k : Nat, k ≤ la ∧ i = .int .i64 k ∧ (∀ j < k, La.getD j 0 = Lb.getD j 0) ∧ Below w.heap.size w wr) (fun i _ => la - (intOf i).toNat)
    case atStart => exact ⟨0, by omega, rfl, fun j hj => absurd hj (by omega), Below.refl _ _⟩
    case round =>
      obtain ⟨k, hk, rfl, hpre, B⟩ := hrel
      have HP := Lib.hid hpre
      clear hpre
      by_cases hlt : k < la
      · have hkl : (k : Int) < (la : Int) := by omega
        have hkb : (k : Int) < (lb : Int) := by have := HL.out; have := HLA.out; have := HLB.out; omega
        obtain ⟨b1, o1, e1, c1⟩ := HA.out.below B k (by rw [HLA.out]; exact hlt)
        obtain ⟨b2, o2, e2, c2⟩ := HB.out.below B k (by rw [← HL.out, HLA.out]; exact hlt)
        subst e1 e2
        obtain ⟨x, hx⟩ : ∃ x, La.getD k 0 = x := ⟨_, rfl⟩
        obtain ⟨y, hy⟩ : ∃ y, Lb.getD k 0 = y := ⟨_, rfl⟩
        rw [hx] at c1
        rw [hy] at c2
        have HX := Lib.hid hx
        have HY := Lib.hid hy
        clear hx hy
        by_cases q : x = y
        · have t1 : (x != y) = false := by simpa using q
          have Q := Lib.hid q
          clear q
          go_wp2_with fail
          go_quiet (fail)
          go_wp2_with fail
          go_roundw
          case rel => exact ⟨k + 1, by omega, by go_num, jstep HP.out (HX.out.trans (Q.out.trans HY.out.symm)), below_drewN B _⟩
          case measure => simp [intOf]; omega
        · have t1 : (x != y) = true := by simpa using q
          have Q := Lib.hid q
          clear q
          have hd := Lib.hid (show decide (La = Lb) = false from decide_eq_false fun h => Q.out (by rw [← HX.out, ← HY.out, h]))
          go_wp2_with fail
          go_quiet (fail)
          go_wp2_with fail
          go_ret
          exact ⟨ret_bool hd.out.symm, below_drewN B _⟩
      · have hkl : ¬ (k : Int) < (la : Int) := by omega
        have hd := Lib.hid (show decide (La = Lb) = true from decide_eq_true (List.ext_getElem (HL.out) fun i h1 h2 => by
          have := HP.out i (by have := HLA.out; omega)
          simpa [List.getD, List.getElem?_eq_getElem h1, List.getElem?_eq_getElem h2] using this))
        go_wp2_with fail
        go_ret
        exact ⟨ret_bool hd.out.symm, B⟩
  · have hne : ((La.length : Int) != (Lb.length : Int)) = true := by simp; omega
    have hd := Lib.hid (show decide (La = Lb) = false from decide_eq_false fun h => hl (by rw [h]))
    clear hl
    go_enter Try.func18, Try.ntmps18
    go_wp2_with fail
    go_ret
    exact ⟨ret_bool hd.out.symm, Below.refl _ _⟩
end Go.Proofs.Ytochdmdojcfceaa
