/- Rows that are read, by contracts. -/
import Derived.Test.YtkgcbhpgkcfkhaaTak
namespace Go.Proofs.Ytkgcbhpgkcfkhaa
open Go.ChangeShapes Go.WideShapes Go.ChangeAt Go.RowKit
set_option linter.unusedVariables false
set_option linter.unusedSimpArgs false

theorem rdr_box (w : World) (a : Option Addr) (cap n : Nat) (L : List Int) (hn : L.length = n) (hl : Ls .u8 w a cap L) (ha : ∀ b off, a = some ⟨b, off, none⟩ → b < w.heap.size) : Rdr (w.alloc (.cells #[.slice a n cap, .int .i64 0, .bool true] 158)) w.heap.size a cap n L 0 := by
  refine ⟨hn, by rw [cell_new]; rfl, by rw [cell_new]; rfl, by rw [cell_new]; rfl, by simp [go_sem], by simp [go_sem], by simp [go_sem], fun W2 h2 => ?_, Nat.zero_le _, ha⟩
  have hl2 := hl.below ((Below.refl _ w).alloc (Nat.le_refl _) (.cells #[.slice a n cap, .int .i64 0, .bool true] 158))
  refine ⟨fun k hk => ?_, hl.nl, hl.le⟩
  obtain ⟨b, off, e, hc⟩ := hl2.rd k hk
  exact ⟨b, off, e, (h2 k b off e).trans hc⟩
set_option maxRecDepth 100000 in
set_option maxHeartbeats 1000000 in
theorem open_law (a : Option Addr) (L : List Int) (n cap : Nat) (hL : L.length = n) (hn : n ≤ 1000000) (w : World) (hA : Ls .u8 w a cap L) :
    Calls Try.prog 92 #[.slice a n cap] w fun r w' => ∃ B ad c, r = .returned (.pointer (some ⟨B, 0, none⟩)) ∧ Rdr w' B ad c n L 0 ∧ w.heap.size ≤ B ∧ Below w.heap.size w w' := by
  have hfl : flat [⟨a, cap, L⟩] = L := by simp [flat]
  have hj := join_own (some ⟨w.heap.size, 0, none⟩) [⟨a, cap, L⟩] 1 1 rfl (by omega) (by rw [hfl, hL]; omega) _ (rdR_new w [⟨a, cap, L⟩] #[.slice a n cap] 24 (0, 0) (by simp only [List.map_cons, List.map_nil, P1.v, hL]) (by
    intro q hq
    simp only [List.mem_cons, List.not_mem_nil, or_false] at hq
    subst hq
    exact hA))
  rw [hfl, hL] at hj
  have HJ := Lib.hid hj
  have HL := Lib.hid hL
  clear hj hfl hA hL
  go_enter Try.func92, Try.ntmps92
  go_wp2_with fail
  refine HJ.out.mono ?_; rintro e w3 ⟨a3, c3, rfl, l3, o3, B3⟩
  have BB := Lib.hid (step_below ((Below.refl w.heap.size w).alloc (Nat.le_refl _) (.cells #[.slice a n cap] 24)) B3)
  have HR := Lib.hid (rdr_box w3 a3 c3 n L HL.out l3 (fun b off e => by subst e; exact (o3.lt b rfl).2))
  clear l3 o3 B3
  go_wp2_with fail
  go_ret
  exact ⟨w3.heap.size, a3, c3, rfl, HR.out, BB.out.size, BB.out.alloc BB.out.size _⟩
theorem end_law {W : World} {B : Nat} {ad : Option Addr} {cap n : Nat} {L : List Int} (h : Rdr W B ad cap n L n) (hn : n ≤ 1000000) :
    Calls Try.prog 96 #[.pointer (some ⟨B, 0, none⟩)] W fun r w' => r = .returned (.int .i64 0) ∧ Below W.heap.size W w' := by
  have H := Lib.hid h
  have hl := left_law h hn
  rw [Nat.sub_self] at hl
  have HLL := Lib.hid hl
  clear h hl
  go_enter Try.func96, Try.ntmps96
  go_wp2_with fail
  refine (none_law H.out).mono ?_; rintro e w' ⟨rfl, rfl⟩
  go_wp2_with fail
  refine HLL.out.mono ?_; rintro e w2 ⟨rfl, B2⟩
  go_wp2_with fail
  go_ret
  exact ⟨rfl, B2⟩
set_option maxRecDepth 100000 in
set_option maxHeartbeats 1000000 in
theorem read_ok (a : Option Addr) (L : List Int) (n cap : Nat) (hL : L.length = n) (hn : n ≤ 1000000) (c0 : Nat) (fs : List (List Int)) (he : L = (c0 : Int) :: fsL fs) (hc : 1 ≤ c0 ∧ c0 ≤ 3) (hfs : fs.length = c0) (hl : ∀ f ∈ fs, f.length ≤ 24) (w : World) (hA : Ls .u8 w a cap L) :
    Calls Try.prog 58 #[.slice a n cap] w fun r w' => (∃ a' c' R, r = .returned (.tuple #[.slice a' c0 c', .int .i64 0]) ∧ R.map P1.bs = fs ∧ RdR w' a' R) ∧ Below w.heap.size w w' := by
  have H1 := Lib.hid (open_law a L n cap hL hn w hA)
  have HE := Lib.hid he
  have HFS := Lib.hid hfs
  have HLL := Lib.hid hl
  clear hL he hfs hl hA
  go_enter Try.func58, Try.ntmps58
  go_wp2_with fail
  refine H1.out.mono ?_; rintro e w1 ⟨B, ad, c, rfl, r1, hB, B1⟩
  have hT := take_law r1 hn c0 fs HE.out hc.2 (by have := HFS.out; omega) HLL.out
  have hsz := r1.lt
  have HT := Lib.hid hT
  clear hT r1
  go_wp2_with fail
  refine HT.out.mono ?_; rintro e w2 ⟨hp, g2⟩
  rcases hp with ⟨_, a', c', R, rfl, hRm, hR, r2⟩ | ⟨hlt, _⟩
  · have B2 := below_oth B1 g2 B1.size hB
    have hE := end_law r2 hn
    have hRl : R.length = c0 := by rw [← HFS.out, ← hRm]; simp
    have hmay : mayR R = true := (mayR_iff R).2 ⟨fun p hp => by
      have : p.bs ∈ fs := by rw [← hRm]; exact List.mem_map.2 ⟨p, hp, rfl⟩
      exact HLL.out _ this, by omega⟩
    have HM := Lib.hid (fun W (b : Below w2.heap.size w2 W) => by have := mayr_law a' R c0 c' hRl (by omega) W (hR.below b); rwa [hmay] at this)
    have HE2 := Lib.hid hE
    have HR := Lib.hid hR
    have HRM := Lib.hid hRm
    have HB2 := Lib.hid B2
    clear hE hRl hmay hR hRm r2 g2 B1 B2 HT
    go_wp2_with fail
    refine HE2.out.mono ?_; rintro e w3 ⟨rfl, B3⟩
    go_wp2_with fail
    refine (HM.out _ B3).mono ?_; rintro e w4 ⟨rfl, B4⟩
    go_wp2_with fail
    go_ret2
    exact ⟨⟨a', c', R, rfl, HRM.out, (HR.out.below B3).below B4⟩, step_below (step_below HB2.out B3) B4⟩
  · exact absurd hlt (by have := HFS.out; omega)
set_option maxRecDepth 100000 in
set_option maxHeartbeats 1000000 in
theorem read_bad (a : Option Addr) (L : List Int) (n cap : Nat) (hL : L.length = n) (hn : n ≤ 1000000) (c0 : Nat) (fs : List (List Int)) (he : L = (c0 : Int) :: fsL fs) (hc : c0 ≤ 3) (hfs : fs.length < c0) (hl : ∀ f ∈ fs, f.length ≤ 24) (w : World) (hA : Ls .u8 w a cap L) :
    Calls Try.prog 58 #[.slice a n cap] w fun r w' => r = .returned (.tuple #[.slice none 0 0, .int .i64 4]) ∧ Below w.heap.size w w' := by
  have H1 := Lib.hid (open_law a L n cap hL hn w hA)
  have HE := Lib.hid he
  have HFS := Lib.hid hfs
  have HLL := Lib.hid hl
  clear hL he hfs hl hA
  go_enter Try.func58, Try.ntmps58
  go_wp2_with fail
  refine H1.out.mono ?_; rintro e w1 ⟨B, ad, c, rfl, r1, hB, B1⟩
  have hT := take_law r1 hn c0 fs HE.out hc (by have := HFS.out; omega) HLL.out
  have HT := Lib.hid hT
  clear hT r1
  go_wp2_with fail
  refine HT.out.mono ?_; rintro e w2 ⟨hp, g2⟩
  rcases hp with ⟨hlt, _⟩ | ⟨_, rfl⟩
  · exact absurd hlt (by have := HFS.out; omega)
  · have B2 := below_oth B1 g2 B1.size hB
    have HB2 := Lib.hid B2
    clear g2 B1 B2 HT
    go_wp2_with fail
    go_ret2
    exact ⟨rfl, HB2.out⟩
end Go.Proofs.Ytkgcbhpgkcfkhaa
