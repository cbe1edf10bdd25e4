/- Disks: ask. -/
import Derived.Test.YtbjhcbiihekceaaDkn
import Derived.Shelf.Abstract
namespace Go.Proofs.Ytbjhcbiihekceaa
open Go.ChangeShapes Go.WideShapes Go.ChangeAt Go.RowKit Go.Maps
set_option linter.unusedVariables false
set_option linter.unusedSimpArgs false
/-- Names that lie in a row. -/
def Nms (W : World) (bn : Nat) (ns : List ByteArray) : Prop := ∀ k s, ns[k]? = some s → W.cell? ⟨bn, k, none⟩ = some (.string s)
set_option maxHeartbeats 1000000 in
/-- ask (67): all names may be: what do answers. -/
theorem dask_law {w : World} {p bm room : Nat} {L : List Fil} (h : Dk w p bm room L) (ns : List ByteArray) (n bn : Nat) (hn : ns.length = n) (hn2 : n ≤ 2) (hc : Nms w bn ns) (hs : ∀ s ∈ ns, s.size ≤ maxLen) (hall : ∀ s ∈ ns, mayB s = true)
    (g : Nat) (eg : ∀ args w, (callFunc g args).run Try.prog w = .ok (.enter g args) w) (caps : Array Value) (k : World → Int) (R' : World → Prop) (hdo : Calls Try.prog g caps w fun e w' => e = .returned (.int .i64 (k w')) ∧ R' w') :
    Calls Try.prog 67 #[.pointer (some ⟨p, 0, none⟩), .func (.func g) #[] caps, .slice (some ⟨bn, 0, none⟩) n n] w fun e w' => e = .returned (.int .i64 (k w')) ∧ R' w' := by
  have HH := Lib.hid h
  have HC := Lib.hid hc
  have HS := Lib.hid hs
  have HA := Lib.hid hall
  have HN := Lib.hid hn
  have HD := Lib.hid hdo
  clear h hc hs hall hn hdo
  go_enter Try.func67, Try.ntmps67
  go_wp2_with (go_at_call 58; refine (dnone_law HH.out).mono ?_; rintro e w' ⟨rfl, rfl⟩)
  go_loop [13] (fun i => ∃ j : Nat, j ≤ n ∧ i = .int .i64 j) (fun i => n - (intOf i).toNat)
  case atStart => exact ⟨0, Nat.zero_le _, rfl⟩
  case round =>
    obtain ⟨j, hj, rfl⟩ := hrel
    by_cases hlt : j < n
    · obtain ⟨s, hsj⟩ : ∃ s, ns[j]? = some s := ⟨_, List.getElem?_eq_getElem (by rw [HN.out]; exact hlt)⟩
      have hm := List.mem_of_getElem? hsj
      have hcell := HC.out j s hsj
      have HM := Lib.hid (may_law s (HS.out s hm) w)
      have HB := Lib.hid (HA.out s hm)
      have hj2 : (j : Int) < (n : Int) := by omega
      clear hsj hm
      go_wp2_with (go_at_call 61; refine HM.out.mono ?_; rintro e w' ⟨rfl, rfl⟩; rw [HB.out])
      go_round
      case rel => exact ⟨j + 1, by omega, by go_num⟩
      case measure => simp [intOf]; omega
    · have hj2 : ¬ (j : Int) < (n : Int) := by omega
      go_wp2_with (go_at_fn g; refine HD.out.mono ?_; rintro e w' ⟨rfl, hR⟩)
      go_ret
      exact ⟨rfl, hR⟩
set_option maxHeartbeats 1000000 in
/-- .. one may not be. -/
theorem dask_no {w : World} {p bm room : Nat} {L : List Fil} (h : Dk w p bm room L) (ns : List ByteArray) (n bn : Nat) (hn : ns.length = n) (hn2 : n ≤ 2) (hc : Nms w bn ns) (hs : ∀ s ∈ ns, s.size ≤ maxLen) (hno : ∃ s ∈ ns, mayB s = false) (v : Value) :
    Calls Try.prog 67 #[.pointer (some ⟨p, 0, none⟩), v, .slice (some ⟨bn, 0, none⟩) n n] w fun e w' => e = .returned (.int .i64 2) ∧ w = w' := by
  have HH := Lib.hid h
  have HC := Lib.hid hc
  have HS := Lib.hid hs
  have HA := Lib.hid hno
  have HN := Lib.hid hn
  clear h hc hs hno hn
  go_enter Try.func67, Try.ntmps67
  go_wp2_with (go_at_call 58; refine (dnone_law HH.out).mono ?_; rintro e w' ⟨rfl, rfl⟩)
  go_loop [13] (fun i => ∃ j : Nat, j ≤ n ∧ i = .int .i64 j ∧ ∀ k < j, ∀ s, ns[k]? = some s → mayB s = true) (fun i => n - (intOf i).toNat)
  case atStart => exact ⟨0, Nat.zero_le _, rfl, fun k hk => absurd hk (by omega)⟩
  case round =>
    obtain ⟨j, hj, rfl, hpre⟩ := hrel
    have HP := Lib.hid hpre
    clear hpre
    by_cases hlt : j < n
    · obtain ⟨s, hsj⟩ : ∃ s, ns[j]? = some s := ⟨_, List.getElem?_eq_getElem (by rw [HN.out]; exact hlt)⟩
      have hm := List.mem_of_getElem? hsj
      have hcell := HC.out j s hsj
      have HM := Lib.hid (may_law s (HS.out s hm) w)
      have hj2 : (j : Int) < (n : Int) := by omega
      have HJ := Lib.hid hsj
      clear hsj hm
      by_cases hb : mayB s = true
      · have HB := Lib.hid hb
        clear hb
        go_wp2_with (go_at_call 61; refine HM.out.mono ?_; rintro e w' ⟨rfl, rfl⟩; rw [HB.out])
        go_round
        case rel =>
          refine ⟨j + 1, by omega, by go_num, fun k hk s' hs' => ?_⟩
          by_cases e : k = j
          · subst e
            rw [HJ.out] at hs'; cases hs'; exact HB.out
          · exact HP.out k (by omega) s' hs'
        case measure => simp [intOf]; omega
      · have HB := Lib.hid (show mayB s = false by simpa using hb)
        clear hb
        go_wp2_with (go_at_call 61; refine HM.out.mono ?_; rintro e w' ⟨rfl, rfl⟩; rw [HB.out])
        go_ret
        exact ⟨rfl, rfl⟩
    · exfalso
      obtain ⟨s, hs, hb⟩ := HA.out
      obtain ⟨k, hk, hks⟩ := List.getElem_of_mem hs
      have := HP.out k (by rw [HN.out] at hk; omega) s (by rw [← hks]; exact List.getElem?_eq_getElem hk)
      rw [hb] at this; cases this
end Go.Proofs.Ytbjhcbiihekceaa
