/- Arenas: two pieces, gone over; how many cells are free. -/
import Derived.Test.YtbjhcbiihekceaaCst
import Derived.Maps.AppendAt
import Derived.Shelf.SlMaps.Clone
import Derived.RangeFuncNested
import Derived.RangeFuncBound
import Derived.RangeFuncCalls
import Derived.RangeFuncLeaves
import Derived.Shelf.Abstract
import Derived.Shelf.RegionOpen
import Derived.OwnWalkIn
import Derived.TacticsInMore
import Derived.LoopNIn
import Derived.LoopIn
import Derived.Maps.OwnIn
import Derived.Sort.MapsRangeIn
namespace Go.Proofs.Ytbjhcbiihekceaa
open Go.ChangeShapes Go.WideShapes Go.ChangeAt Go.RowKit Go.Maps Go.Shelf
set_option linter.unusedVariables false
set_option linter.unusedSimpArgs false
attribute [local go_sem] Oper.semAt_some

/-- A map of just two pieces. -/
structure D2 (D : DataW Unit) (a c : Nat) (va vc : Int) : Prop where
  lt : a < c
  hi : c < 65536
  keys : ∀ x : Int, Maps.has D (.int .u64 x) = true ↔ x = a ∨ x = c
  sz : Maps.size D = 2
  va : D.atKey (.int .u64 a) (.lit (.int .i64 0)) = .lit (.int .i64 va)
  vc : D.atKey (.int .u64 c) (.lit (.int .i64 0)) = .lit (.int .i64 vc)
theorem two_of {ss : List Int} {a c : Int} (hne : a ≠ c) (hn : ss.Nodup) (hm : ∀ x, x ∈ ss ↔ x = a ∨ x = c) : ss = [a, c] ∨ ss = [c, a] := by
  match ss, hn, hm with
  | [], _, hm => exact absurd ((hm a).2 (Or.inl rfl)) (by simp)
  | [x], _, hm =>
    have h1 := (hm a).2 (Or.inl rfl)
    have h2 := (hm c).2 (Or.inr rfl)
    simp at h1 h2
    exact absurd (h1.trans h2.symm) hne
  | [x, y], hn, hm =>
    have h1 := (hm x).1 (by simp)
    have h2 := (hm y).1 (by simp)
    have h3 : x ≠ y := by simp at hn; exact hn
    rcases h1 with rfl | rfl <;> rcases h2 with rfl | rfl
    · exact absurd rfl h3
    · exact Or.inl rfl
    · exact Or.inr rfl
    · exact absurd rfl h3
  | x :: y :: z :: l, hn, hm =>
    have h1 := (hm x).1 (by simp)
    have h2 := (hm y).1 (by simp)
    have h3 := (hm z).1 (by simp)
    simp only [List.nodup_cons, List.mem_cons, not_or] at hn
    obtain ⟨⟨a1, a2, _⟩, ⟨a3, _⟩, _⟩ := hn
    rcases h1 with rfl | rfl <;> rcases h2 with rfl | rfl <;> rcases h3 with rfl | rfl <;> first | exact absurd rfl a1 | exact absurd rfl a2 | exact absurd rfl a3
theorem two_own {w : World} {base : Nat} {v : Value} {x y : Int} (h : w.ownsRow base 62 1 v 2 (uv [x, y])) : ∃ g cap, v = .slice (some ⟨g, 0, none⟩) 2 cap ∧ base ≤ g ∧ 2 ≤ cap ∧ Two w g x y := by
  rcases h.2 with ⟨_, h0⟩ | ⟨g, cap, cur, rfl, hb, hg, h2, _, hs, ht⟩
  · omega
  · have hB : BoxC w g cur 62 := hg
    have h0 : cur[0]? = some (.int .u64 x) := by
      have := congrArg (fun l => l[0]?) ht
      simpa [uv, List.getElem?_take] using this
    have h1 : cur[1]? = some (.int .u64 y) := by
      have := congrArg (fun l => l[1]?) ht
      simpa [uv, List.getElem?_take] using this
    exact ⟨g, cap, rfl, hb, h2, ⟨by rw [hB.cell, h0], by rw [hB.cell, h1], hB.frozen 0, hB.frozen 1⟩⟩
theorem sorted_law (w : World) (Bm b nn : Nat) (D : DataW Unit) (a c : Nat) (va vc : Int) (hD : D2 D a c va vc) (hBm : Boxed w Bm 133 (.map (some b))) (hown : w.ownsMap Try.prog 62 (plainElem Try.prog 3) b nn D) :
    Calls Try.prog 109 #[.func (.func 116) #[] #[.pointer (some ⟨Bm, 0, none⟩)]] w fun e w' => (∃ g cap, e = .returned (.slice (some ⟨g, 0, none⟩) 2 cap) ∧ w.heap.size ≤ g ∧ 2 ≤ cap ∧ Two w' g a c) ∧ Below w.heap.size w w' := by
  have HC := Lib.hid (collect_law w Bm b nn D hBm hown (by rw [hD.sz]; omega))
  have HD := Lib.hid hD
  clear hBm hown hD
  go_enter Try.func109, Try.ntmps109
  go_wp2_with fail
  refine HC.out.mono ?_
  rintro e w1 ⟨ss, v, rfl, h1, h2, h3⟩
  have hss := two_of (a := (a : Int)) (c := (c : Int)) (by have := HD.out.lt; omega) h1.1 (fun x => (h1.2 x).trans (HD.out.keys x))
  have hlt := HD.out.lt
  replace h3 := Lib.hid h3
  rcases hss with rfl | rfl
  · obtain ⟨g, cap, rfl, hg, hcap, hT⟩ := two_own h2
    have HS := Lib.hid (sort_law g cap a c w1 hT hcap)
    have HG := Lib.hid (And.intro hg (And.intro hcap hlt))
    clear h1 h2 hT hg hcap hlt HC
    go_wp2_with (go_at_call 115; refine HS.out.mono ?_; rintro e w2 ⟨rfl, h4, h5⟩; replace h4 := Lib.hid h4; replace h5 := Lib.hid h5)
    go_ret
    have hl := HG.out.2.2
    exact ⟨⟨g, cap, rfl, HG.out.1, HG.out.2.1, by have := h4.out; rwa [show min (a : Int) c = a by omega, show max (a : Int) c = c by omega] at this⟩, h5.out.below h3.out h3.out.size (fun k e => by have := HG.out.1; omega)⟩
  · obtain ⟨g, cap, rfl, hg, hcap, hT⟩ := two_own h2
    have HS := Lib.hid (sort_law g cap c a w1 hT hcap)
    have HG := Lib.hid (And.intro hg (And.intro hcap hlt))
    clear h1 h2 hT hg hcap hlt HC
    go_wp2_with (go_at_call 115; refine HS.out.mono ?_; rintro e w2 ⟨rfl, h4, h5⟩; replace h4 := Lib.hid h4; replace h5 := Lib.hid h5)
    go_ret
    have hl := HG.out.2.2
    exact ⟨⟨g, cap, rfl, HG.out.1, HG.out.2.1, by have := h4.out; rwa [show min (c : Int) a = a by omega, show max (c : Int) a = c by omega] at this⟩, h5.out.below h3.out h3.out.size (fun k e => by have := HG.out.1; omega)⟩
end Go.Proofs.Ytbjhcbiihekceaa
