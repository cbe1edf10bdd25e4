/- What the rows of this seat share: bytes and slices as they come in; and the law on one slice, put together. -/
import Derived.Test.YtjclhoibmoehiaaSingle
import Derived.ProofKit
import Derived.OpenShut
import Derived.ChangeOld
namespace Go.Proofs.Ytjclhoibmoehiaa
open Go.ChangeShapes Go.WideShapes Go.ChangeAt Go.RowKit
open SM
set_option linter.unusedVariables false
set_option linter.unusedSimpArgs false

def IsRow (k : IntKind) (w : World) (a : Option Addr) (len cap : Nat) (zs : List Int) : Prop :=
  (a = none ∧ len = 0 ∧ cap = 0 ∧ zs = []) ∨
  ∃ x, a = some x ∧ len ≤ cap ∧ cap ≤ maxLen ∧ zs.length = cap ∧ (∀ i, i < zs.length → w.cell? (x.add i) = some (.int k (zs.getD i 0))) ∧ ∀ n ∈ zs, (Lit.int k n).wf = true
theorem IsRow.le {k : IntKind} {w : World} {a : Option Addr} {len cap : Nat} {zs : List Int} (h : IsRow k w a len cap zs) : len ≤ cap := by
  rcases h with ⟨_, e, _, _⟩ | ⟨_, _, h, _⟩ <;> omega
theorem IsRow.fits {w : World} {a : Option Addr} {len cap : Nat} {zs : List Int} (h : IsRow .u8 w a len cap zs) : Fits (fun i => zs.getD i 0) := by
  refine getD_fits zs fun x hx => ?_
  rcases h with ⟨_, _, _, e⟩ | ⟨_, _, _, _, _, _, hw⟩
  · subst e; cases hx
  · simpa [Lit.wf, IntKind.min, IntKind.max, IntKind.signed, IntKind.bits] using hw x hx
theorem IsRow.bts {w : World} {a : Option Addr} {len cap : Nat} {zs : List Int} (h : IsRow .u8 w a len cap zs) : Bts w a len (fun i => zs.getD i 0) := fun k hk => by
  rcases h with ⟨_, e, _, _⟩ | ⟨y, rfl, hlc, _, hz, hcell, _⟩
  · omega
  · obtain ⟨b, off, spot⟩ := y
    have hc0 := hcell 0 (by omega)
    have hspot : spot = none := by simpa [Addr.add] using World.cell?_spot hc0
    subst hspot
    have hc := hcell k (by omega)
    rw [addr_add] at hc
    exact ⟨b, off, rfl, hc⟩

section
variable {H : Type} {enc : TypeId × Value → H} {w : World} {base b0 : Nat} {spare : Nat → Bool} {held : Bool} {r : Reach} {v : Value} {d : DataW H} {ps : List MemPlace}
set_option maxRecDepth 100000 in
/-- A slice of a key, by value, opened. -/
theorem open_slice26 (hval : Value.okWide Try.prog w r b0 26 v) (hd : DataW.Trod enc Try.prog w base spare held 26 v d ps) :
    ∃ x n : Int, v = .agg #[.int .u64 x, .int .i64 n] ∧ 0 ≤ x ∧ x < 18446744073709551616 := by
  obtain ⟨cs, rfl, hsz, _⟩ : ∃ cs, v = .agg cs ∧ cs.size = Try.prog.cellsOf 26 ∧ Row.okWide Try.prog w r b0 26 cs := by
    simpa [Value.okWide, Try.underlying26] using hval
  have c26 : Try.prog.cellsOf 26 = 2 := by kernel_rfl
  have c24 : Try.prog.cellsOf 24 = 1 := by kernel_rfl
  have c3 : Try.prog.cellsOf 3 = 1 := by kernel_rfl
  rw [c26] at hsz
  obtain ⟨l⟩ := cs
  match l, hsz with
  | [u0, u1], _ =>
    obtain ⟨fuel, hf⟩ := hd
    obtain ⟨xs, m, _, _, _, hl, hel⟩ := DataW.trod_struct Try.underlying26 hf
    have k0 : DataW.trod enc Try.prog w base spare held m 24 (List.take (Try.prog.cellsOf 24) (List.drop 0 [u0, u1])) = xs[0]? := hel 0 _ rfl
    have k1 : DataW.trod enc Try.prog w base spare held m 3 (List.take (Try.prog.cellsOf 3) (List.drop 1 [u0, u1])) = xs[1]? := hel 1 _ rfl
    rw [c24] at k0
    rw [c3] at k1
    simp only [List.drop, List.take] at k0 k1
    match xs, hl with
    | [x0, x1], _ =>
      obtain ⟨z0, a0, _, w0⟩ := DataW.trod_int Try.underlying24 k0
      obtain ⟨z1, a1, _, _⟩ := DataW.trod_int Try.underlying3 k1
      simp only [List.cons.injEq, and_true] at a0 a1
      subst a0 a1
      have hb : 0 ≤ z0 ∧ z0 ≤ 18446744073709551615 := by simpa [Lit.wf, IntKind.min, IntKind.max, IntKind.signed, IntKind.bits] using w0
      exact ⟨_, _, rfl, hb.1, by omega⟩
end

theorem single_law (a : Option Addr) (len cap : Nat) (zs : List Int) (x n : Int) (hx : 0 ≤ x) (hx1 : x < 18446744073709551616) (w : World) (hr : IsRow .u8 w a len cap zs) :
    Calls Try.prog 6 #[.slice a len cap, .agg #[.int .u64 x, .int .i64 n]] w fun e w' => e = .returned (.bool true) ∧ Below w.heap.size w w' := by
  have hK := hr.bts
  have hF := hr.fits
  have hL := hr.le
  cases hm : mayV x n
  · by_cases h : len ≤ 8
    · exact single_bad_short a len cap x n _ hF hL h hx hx1 hm w hK
    · exact single_bad_long a len cap x n (by omega) hx hx1 hm w
  · have hn : 0 ≤ n ∧ n ≤ 9 := by unfold mayV at hm; simp at hm; omega
    rcases (show n ≤ 8 ∨ n = 9 from by omega) with h8 | rfl
    · obtain ⟨k, rfl⟩ : ∃ k : Nat, n = k := ⟨n.toNat, by omega⟩
      by_cases h : len ≤ 8
      · exact single_le8_short a len cap x k (by omega) _ hF hL h hx hx1 hm w hK
      · exact single_le8_long a len cap x k (by omega) (by omega) hx hx1 hm w
    · by_cases h : len ≤ 8
      · exact single_nine_short a len cap x _ hF hL h hx hx1 hm w hK
      · exact single_nine_long a len cap x (by omega) hx hx1 hm w

end Go.Proofs.Ytjclhoibmoehiaa
