/- Two rows of parts, joined. -/
import Derived.Test.YtglkndoghnblcaaGreatDoorLpg
import Derived.Test.YtglkndoghnblcaaGreatDoorLpz
namespace Go.Proofs.YtglkndoghnblcaaGreatDoor
open Go.ChangeShapes Go.WideShapes Go.ChangeAt Go.RowKit
set_option linter.unusedVariables false
set_option linter.unusedSimpArgs false
theorem sum3 (n m : Nat) : (0 : Int) + (n : Int) = (n : Int) := by omega
set_option maxRecDepth 100000 in
set_option maxHeartbeats 4000000 in
/-- slices.Concat of two rows of parts (42). -/
theorem concat_law (S : Nat) (a b : Option Addr) (c d n m : Nat) (xs ys : List LpV) (hx : xs.length = n) (hy : ys.length = m) (hnm : n + m ≤ 1000000) (w : World)
    (hc0 : w.cell? ⟨S, 0, none⟩ = some (.slice a n c)) (hc1 : w.cell? ⟨S, 1, none⟩ = some (.slice b m d)) (hA : LpsR w a xs) (hB : LpsR w b ys) (hna : a = none → c = 0) (hnb : b = none → d = 0) :
    Calls Tryz.prog 42 #[.slice (some ⟨S, 0, none⟩) 2 2] w fun r w' => ∃ v, r = .returned v ∧ w'.ownsRow w.heap.size 42 2 v (n + m) (lcells (xs ++ ys)) ∧ Below w.heap.size w w' := by
  have HRA := Lib.hid hA
  have HRB := Lib.hid hB
  have HNA := Lib.hid hna
  have HNB := Lib.hid hnb
  have HX := Lib.hid hx
  have HY := Lib.hid hy
  have FQ := Lib.hid (fun X (b' : Below w.heap.size w X) => (⟨(b'.cell (cell_lt hc0)).trans hc0, (b'.cell (cell_lt hc1)).trans hc1⟩ : X.cell? ⟨S, 0, none⟩ = some (.slice a n c) ∧ X.cell? ⟨S, 1, none⟩ = some (.slice b m d)))
  have HGR := Lib.hid (fun W => grow_law (n + m) hnm W)
  have dn : (n : Int) ≤ 1000000 := by omega
  have dm : (m : Int) ≤ 1000000 := by omega
  have dnm : (n : Int) + (m : Int) ≤ 1000000 := by omega
  clear hA hB hna hnb hc0 hc1 hx hy
  go_enter Tryz.func42, Tryz.ntmps42
  go_wp2_with fail
  go_loopw [3, 11] (fun s i wr => ((i = .int .i64 0 ∧ s = .int .i64 0) ∨ (i = .int .i64 1 ∧ s = .int .i64 (n : Int)) ∨ (i = .int .i64 2 ∧ s = .int .i64 ((n : Int) + (m : Int)))) ∧ w = wr) (fun s i _ => 2 - (intOf i).toNat)
  case atStart => exact ⟨.inl ⟨rfl, rfl⟩, rfl⟩
  case round =>
    obtain ⟨hd, rfl⟩ := hrel
    obtain ⟨z0, z1⟩ := FQ.out _ (Below.refl _ _)
    rcases hd with ⟨rfl, rfl⟩ | ⟨rfl, rfl⟩ | ⟨rfl, rfl⟩
    · have d1 : ¬ (n : Int) < 0 := by omega
      go_wp2_with fail
      go_roundw
      case rel => exact ⟨.inr (.inl ⟨by go_num, by go_num⟩), by first | rfl | trivial⟩
      case measure => simp [intOf]
    · have d1 : ¬ (n : Int) + (m : Int) < 0 := by omega
      go_wp2_with fail
      go_roundw
      case rel => exact ⟨.inr (.inr ⟨by go_num, by go_num⟩), by first | rfl | trivial⟩
      case measure => simp [intOf]
    · clear z0 z1
      go_wp2_with fail
      rw [show ((n : Int) + (m : Int)) = ((n + m : Nat) : Int) by omega]
      refine (HGR.out _).mono ?_; rintro r w3 ⟨v3, rfl, hown3, hgrow3⟩
      have HO3 := Lib.hid hown3
      have HB3 := Lib.hid ((Below.refl w.heap.size w).grown hgrow3 (Nat.le_refl _) (fun k hk => by cases hk))
      clear hown3 hgrow3
      go_wp2_with fail
      go_loopw [6, 27] (fun s i W => ((i = .int .i64 0 ∧ Hid (W.ownsRow w.heap.size 42 2 s 0 (lcells []))) ∨ (i = .int .i64 1 ∧ Hid (W.ownsRow w.heap.size 42 2 s n (lcells xs))) ∨ (i = .int .i64 2 ∧ Hid (W.ownsRow w.heap.size 42 2 s (n + m) (lcells (xs ++ ys))))) ∧ Hid (Below w.heap.size w W)) (fun s i _ => 2 - (intOf i).toNat)
      case atStart => exact ⟨.inl ⟨rfl, HO3⟩, HB3⟩
      case round =>
        obtain ⟨hd, HBW⟩ := hrel
        obtain ⟨z0, z1⟩ := FQ.out _ HBW.out
        rcases hd with ⟨rfl, HO⟩ | ⟨rfl, HO⟩ | ⟨rfl, HO⟩
        · go_wp2_with (at_builtin; refine append_lps rfl (.tmp 31) (.tmp 32) rfl w.heap.size _ 0 [] rfl HO.out a c n xs HX.out rfl (HRA.out.below HBW.out) HNA.out (by omega) HBW.out.size ?_; intro v8 w8 hown8 hgrow8; rw [Nat.zero_add, List.nil_append] at hown8; have b8 : Below w.heap.size w w8 := HBW.out.grown hgrow8 HBW.out.size (fun j hj => (HO.out.lt j hj).1); have HB8 := Lib.hid b8; have HO8 := Lib.hid hown8; clear b8 hown8 hgrow8)
          go_roundw
          case rel => exact ⟨.inr (.inl ⟨by go_num, HO8⟩), HB8⟩
          case measure => simp [intOf]
        · go_wp2_with (at_builtin; refine append_lps rfl (.tmp 31) (.tmp 32) rfl w.heap.size _ n xs rfl HO.out b d m ys HY.out rfl (HRB.out.below HBW.out) HNB.out (by omega) HBW.out.size ?_; intro v8 w8 hown8 hgrow8; have b8 : Below w.heap.size w w8 := HBW.out.grown hgrow8 HBW.out.size (fun j hj => (HO.out.lt j hj).1); have HB8 := Lib.hid b8; have HO8 := Lib.hid hown8; clear b8 hown8 hgrow8)
          go_roundw
          case rel => exact ⟨.inr (.inr ⟨by go_num, HO8⟩), HB8⟩
          case measure => simp [intOf]
        · go_wp2_with fail
          go_ret
          exact ⟨_, rfl, HO.out, HBW.out⟩
end Go.Proofs.YtglkndoghnblcaaGreatDoor
