/- Entries compared and sought by a predicate, by contracts. -/
import Derived.Test.YtkgcbhpgkcfkhaaCjs
import Derived.Test.YtkgcbhpgkcfkhaaK8l
namespace Go.Proofs.Ytkgcbhpgkcfkhaa
open Go.ChangeShapes Go.WideShapes Go.ChangeAt Go.RowKit Go.Shelf
set_option linter.unusedVariables false
set_option linter.unusedSimpArgs false

theorem ls_bts {w : World} {a : Option Addr} {cap : Nat} {L : List Int} (h : Ls .u8 w a cap L) : K8.Bts w a L.length (fun i => L.getD i 0) := h.rd
theorem byt_fits {L : List Int} (h : Byt L) : K8.Fits (fun i => L.getD i 0) := fun i => by
  by_cases hi : i < L.length
  · have := h _ (List.getElem_mem hi)
    simp only [List.getD, List.getElem?_eq_getElem hi, Option.getD_some]; omega
  · simp [List.getD, List.getElem?_eq_none (show L.length ≤ i by omega)]
theorem comparekeys_eq (a b : Option Addr) (L M : List Int) (n m ca cb : Nat) (hL : L.length = n) (hM : M.length = m) (bL : Byt L) (bM : Byt M) (hn : n ≤ 1048576) (hm : m ≤ 1048576) (w : World) (hA : Ls .u8 w a ca L) (hB : Ls .u8 w b cb M) :
    Calls Try.prog 86 #[.slice a n ca, .slice b m cb] w fun r w' => (∃ v : Int, r = .returned (.int .i64 v) ∧ (v = 0 ↔ L = M)) ∧ Below w.heap.size w w' := by
  subst hL hM
  refine (K8.comparekeys_law a b L.length ca M.length cb _ _ (byt_fits bL) (byt_fits bM) hn hm hA.le hB.le w (ls_bts hA) (ls_bts hB)).mono ?_
  rintro r W ⟨rfl, B⟩
  refine ⟨⟨_, rfl, ?_⟩, B⟩
  rw [K8.ckV_eq _ _ (byt_fits bL) (byt_fits bM)]
  constructor
  · rintro ⟨h1, h2⟩
    apply List.ext_getElem h1
    intro i hi hj
    have := h2 i hi
    simpa [List.getD, List.getElem?_eq_getElem hi, List.getElem?_eq_getElem hj] using this
  · rintro rfl
    exact ⟨rfl, fun _ _ => rfl⟩

def eqE (o x : E1) : Bool := decide (o.1 = x.1 ∧ o.2.bs = x.2.bs)
set_option maxRecDepth 100000 in
set_option maxHeartbeats 2000000 in
theorem eq1_law (ot xt : Int) (op xp : P1) (B : Nat) (bo : Byt op.bs) (bx : Byt xp.bs) (lo : op.bs.length ≤ 1048576) (lx : xp.bs.length ≤ 1048576) (w : World) (ho : Ls .u8 w op.ad op.cap op.bs) (hx : Ls .u8 w xp.ad xp.cap xp.bs)
    (c0 : w.cell? ⟨B, 0, none⟩ = some (.int .i64 xt)) (c1 : w.cell? ⟨B, 1, none⟩ = some xp.v) :
    Calls Try.prog 85 #[.agg #[.int .i64 ot, op.v], .pointer (some ⟨B, 0, none⟩)] w fun r w' => r = .returned (.bool (eqE (ot, op) (xt, xp))) ∧ Below w.heap.size w w' := by
  obtain ⟨oa, oc, ol⟩ := op
  obtain ⟨xa, xc, xl⟩ := xp
  have b0 : Below w.heap.size w (w.alloc (.cells #[.int .i64 ot, .slice oa ol.length oc] 91)) := (Below.refl _ _).alloc (Nat.le_refl _) _
  have hb0 := World.block_lt_of_cell? w _ c0
  have hb1 := World.block_lt_of_cell? w _ c1
  have d0 := (b0.cell (p := ⟨B, 0, none⟩) hb0).trans c0
  have d1 : (w.alloc (.cells #[.int .i64 ot, .slice oa ol.length oc] 91)).cell? ⟨B, 1, none⟩ = some (.slice xa xl.length xc) := (b0.cell (p := ⟨B, 1, none⟩) hb1).trans c1
  have hC := comparekeys_eq oa xa ol xl _ _ oc xc rfl rfl bo bx lo lx _ (ho.below b0) (hx.below b0)
  have HC := Lib.hid hC
  have HB0 := Lib.hid b0
  clear hC c0 c1 ho hx bo bx hb0 hb1 b0
  show Calls Try.prog 85 #[.agg #[.int .i64 ot, .slice oa ol.length oc], .pointer (some ⟨B, 0, none⟩)] w _
  by_cases ht : ot = xt
  · subst ht
    have heq : (ot == ot) = true := by simp
    go_enter Try.func85, Try.ntmps85
    go_wp2_with fail
    refine HC.out.mono ?_; rintro e w' ⟨⟨v, rfl, hv⟩, B1⟩
    have HV := Lib.hid hv
    have HB1 := Lib.hid (step_below HB0.out B1)
    clear hv B1
    by_cases hz : v = 0
    · have hz1 : (v == 0) = true := by simp [hz]
      have HR := Lib.hid (show eqE (ot, ⟨oa, oc, ol⟩) (ot, ⟨xa, xc, xl⟩) = true from decide_eq_true ⟨rfl, HV.out.1 hz⟩)
      clear hz
      go_wp2_with fail
      go_ret
      exact ⟨ret_bool HR.out.symm, HB1.out⟩
    · have hz1 : (v == 0) = false := by simp [hz]
      have HR := Lib.hid (show eqE (ot, ⟨oa, oc, ol⟩) (ot, ⟨xa, xc, xl⟩) = false from decide_eq_false fun h => hz (HV.out.2 h.2))
      clear hz
      go_wp2_with fail
      go_ret
      exact ⟨ret_bool HR.out.symm, HB1.out⟩
  · have heq : (ot == xt) = false := by simpa using ht
    have HR := Lib.hid (show eqE (ot, ⟨oa, oc, ol⟩) (xt, ⟨xa, xc, xl⟩) = false from decide_eq_false fun h => ht h.1)
    clear ht
    go_enter Try.func85, Try.ntmps85
    go_wp2_with fail
    go_ret
    exact ⟨ret_bool HR.out.symm, HB0.out⟩
end Go.Proofs.Ytkgcbhpgkcfkhaa
