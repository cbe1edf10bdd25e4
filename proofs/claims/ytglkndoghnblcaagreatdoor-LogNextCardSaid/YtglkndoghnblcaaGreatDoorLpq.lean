/- The document's needed. -/
import Derived.Test.YtglkndoghnblcaaGreatDoorLpo
import Derived.Test.YtglkndoghnblcaaGreatDoorOkg
namespace Go.Proofs.YtglkndoghnblcaaGreatDoor
open Go.ChangeShapes Go.WideShapes Go.ChangeAt Go.RowKit
set_option linter.unusedVariables false
set_option linter.unusedSimpArgs false
theorem man_l : nMan.toList = [109, 97, 110, 105, 102, 101, 115, 116] := by rw [ByteArray.toList_eq]; rfl
theorem dur_l : nDur.toList = [100, 117, 114, 97, 98, 108, 101] := by rw [ByteArray.toList_eq]; rfl
theorem durn_l : nDurN.toList = [100, 117, 114, 97, 98, 108, 101, 46, 110, 101, 119] := by rw [ByteArray.toList_eq]; rfl
set_option maxRecDepth 100000 in
set_option maxHeartbeats 4000000 in
/-- The document's needed (45). -/
theorem needed_law (g e f : Int) (nm : ByteArray) (a : Option Addr) (c n : Nat) (xs : List LpV) (s : ByteArray) (hn : xs.length = n) (hnm : n ≤ 1000000) (w : World) (ht : TabW w) (hA : LpsR w a xs) :
    Calls Tryz.prog 45 #[.agg #[.int .i64 g, .string nm, .int .i64 e, .int .i64 f, .slice a n c], .string s] w fun r w' => r = .returned (.bool (ndB g nm xs s)) ∧ Below w.heap.size w w' := by
  have HR := Lib.hid hA
  have HN := Lib.hid hn
  have HTB := Lib.hid ht
  clear hA hn ht
  go_enter Tryz.func45, Tryz.ntmps45
  go_upto_region 1 with (fail)
  obtain ⟨W1, hW1⟩ : ∃ W1, w.alloc (.cells #[.int .i64 g, .string nm, .int .i64 e, .int .i64 f, .slice a n c] 39) = W1 := ⟨_, rfl⟩
  have hb1 : Below w.heap.size w W1 := by rw [← hW1]; exact bl1 _ _
  have bx : BoxC W1 w.heap.size #[.int .i64 g, .string nm, .int .i64 e, .int .i64 f, .slice a n c] 39 := by rw [← hW1]; exact BoxC.new w _ 39
  try rw [hW1]
  clear hW1
  have HW1 := Lib.hid hb1
  have HLN := Lib.hid (fun l W (b : Below W1.heap.size W1 W) => rlogname_law g l W (HTB.out.below (step_below hb1 b)))
  clear hb1
  go_wp2_with fail
  go_loopw [5] (fun i wr => ((i = .int .i64 0) ∨ (i = .int .i64 1 ∧ Hid (¬ s = lnS g 0)) ∨ (i = .int .i64 2 ∧ Hid (¬ s = lnS g 0 ∧ ¬ s = lnS g 1))) ∧ Hid (Below W1.heap.size W1 wr)) (fun i _ => 2 - (intOf i).toNat)
  case atStart => exact ⟨.inl rfl, Lib.hid (Below.refl _ _)⟩
  case round =>
    obtain ⟨hd, HBW⟩ := hrel
    have b0 := (bx.below HBW.out).cell 0
    simp at b0
    rcases hd with rfl | ⟨rfl, HQ0⟩ | ⟨rfl, HQ0⟩
    · go_wp2_with fail
      refine (HLN.out 0 _ HBW.out).mono ?_; rintro r w7 ⟨rfl, hb7⟩
      have HB7 := Lib.hid (step_below HBW.out hb7)
      clear hb7 b0
      cases hq : (s.toList == (lnS g 0).toList)
      · have HQ := Lib.hid (eq_no hq)
        go_wp2_with fail
        go_roundw
        case rel => exact ⟨.inr (.inl ⟨by go_num, HQ⟩), HB7⟩
        case measure => simp [intOf]
      · have HV := Lib.hid (show ndB g nm xs s = true from (ndB_iff _ _ _ _).2 (.inl (eq_yes hq)))
        go_wp2_with fail
        go_ret
        exact ⟨by rw [HV.out]; rfl, step_below HW1.out HB7.out⟩
    · go_wp2_with fail
      refine (HLN.out 1 _ HBW.out).mono ?_; rintro r w7 ⟨rfl, hb7⟩
      have HB7 := Lib.hid (step_below HBW.out hb7)
      clear hb7 b0
      cases hq : (s.toList == (lnS g 1).toList)
      · have HQ := Lib.hid (eq_no hq)
        go_wp2_with fail
        go_roundw
        case rel => exact ⟨.inr (.inr ⟨by go_num, Lib.hid ⟨HQ0.out, HQ.out⟩⟩), HB7⟩
        case measure => simp [intOf]
      · have HV := Lib.hid (show ndB g nm xs s = true from (ndB_iff _ _ _ _).2 (.inr <| .inl (eq_yes hq)))
        go_wp2_with fail
        go_ret
        exact ⟨by rw [HV.out]; rfl, step_below HW1.out HB7.out⟩
    · clear b0
      go_wp2_with fail
      obtain ⟨W2, rfl⟩ : ∃ W, W = wr := ⟨_, rfl⟩
      have HB2 := HBW
      clear HBW
      go_loopw [8] (fun i wr => ∃ (k : Nat), k ≤ n ∧ i = .int .i64 (k : Int) ∧ Hid (∀ x ∈ xs.take k, ¬ x.1 = s) ∧ Hid (Below W1.heap.size W1 wr)) (fun i _ => n - (intOf i).toNat)
      case atStart => exact ⟨0, Nat.zero_le _, rfl, Lib.hid (fun x hx => by simp at hx), HB2⟩
      case round =>
        clear HB2
        obtain ⟨k, hk, rfl, HK, HBW⟩ := hrel
        have b4 := (bx.below HBW.out).cell 4
        simp at b4
        by_cases hlt : k < n
        · have d1 : (k : Int) < (n : Int) := by omega
          obtain ⟨x, hx⟩ : ∃ x, xs[k]? = some x := ⟨_, List.getElem?_eq_getElem (by rw [HN.out]; exact hlt)⟩
          have HX := Lib.hid hx
          obtain ⟨b1, o1, e1, y0, y1⟩ := (HR.out.below (step_below HW1.out HBW.out)) k x hx
          subst e1
          clear hx y1
          cases hq : (x.1.toList == s.toList)
          · have HKN := Lib.hid (show ∀ y ∈ xs.take (k + 1), ¬ y.1 = s from fun y hy => by
              rw [take_one HX.out] at hy
              rcases List.mem_append.1 hy with h | h
              · exact HK.out y h
              · rw [List.mem_singleton] at h; subst h; exact eq_no hq)
            go_wp2_with fail
            go_roundw
            case rel => exact ⟨k + 1, by omega, by go_num, HKN, HBW⟩
            case measure => simp [intOf]; omega
          · have HV := Lib.hid (show ndB g nm xs s = true from (ndB_iff _ _ _ _).2 (.inr <| .inr <| .inl ⟨x, List.mem_of_getElem? HX.out, eq_yes hq⟩))
            go_wp2_with fail
            go_ret
            exact ⟨by rw [HV.out]; rfl, step_below HW1.out HBW.out⟩
        · have d1 : ¬ (k : Int) < (n : Int) := by omega
          rw [List.take_of_length_le (show xs.length ≤ k by rw [HN.out]; omega)] at HK
          have b1 := (bx.below HBW.out).cell 1
          simp at b1
          have HBF := Lib.hid (step_below HW1.out HBW.out)
          cases hq1 : (s.toList == ([109, 97, 110, 105, 102, 101, 115, 116] : List UInt8))
          rotate_left
          · have HV := Lib.hid (show ndB g nm xs s = true from (ndB_iff _ _ _ _).2 (.inr <| .inr <| .inr <| .inl (eq_yes (by rw [man_l]; exact hq1))))
            go_wp2_with fail
            go_ret
            exact ⟨by rw [HV.out]; rfl, HBF.out⟩
          cases hq2 : (s.toList == ([100, 117, 114, 97, 98, 108, 101] : List UInt8))
          rotate_left
          · have HV := Lib.hid (show ndB g nm xs s = true from (ndB_iff _ _ _ _).2 (.inr <| .inr <| .inr <| .inr <| .inl (eq_yes (by rw [dur_l]; exact hq2))))
            go_wp2_with fail
            go_ret
            exact ⟨by rw [HV.out]; rfl, HBF.out⟩
          cases hq3 : (s.toList == ([100, 117, 114, 97, 98, 108, 101, 46, 110, 101, 119] : List UInt8))
          rotate_left
          · have HV := Lib.hid (show ndB g nm xs s = true from (ndB_iff _ _ _ _).2 (.inr <| .inr <| .inr <| .inr <| .inr <| .inl (eq_yes (by rw [durn_l]; exact hq3))))
            go_wp2_with fail
            go_ret
            exact ⟨by rw [HV.out]; rfl, HBF.out⟩
          cases hq4 : nm.toList.isEmpty
          · cases hq5 : (s.toList == nm.toList)
            · have HV := Lib.hid (show ndB g nm xs s = false by
                rw [Bool.eq_false_iff]
                intro h
                rcases (ndB_iff _ _ _ _).1 h with h | h | ⟨x, hx, h⟩ | h | h | h | ⟨_, h⟩
                · exact HQ0.out.1 h
                · exact HQ0.out.2 h
                · exact HK.out x hx h
                · exact eq_no (t := nMan) (by rw [man_l]; exact hq1) h
                · exact eq_no (t := nDur) (by rw [dur_l]; exact hq2) h
                · exact eq_no (t := nDurN) (by rw [durn_l]; exact hq3) h
                · exact eq_no hq5 h)
              go_wp2_with fail
              go_ret
              exact ⟨by rw [HV.out]; rfl, HBF.out⟩
            · have HV := Lib.hid (show ndB g nm xs s = true from (ndB_iff _ _ _ _).2 (.inr <| .inr <| .inr <| .inr <| .inr <| .inr ⟨hq4, eq_yes hq5⟩))
              go_wp2_with fail
              go_ret
              exact ⟨by rw [HV.out]; rfl, HBF.out⟩
          · have HV := Lib.hid (show ndB g nm xs s = false by
                rw [Bool.eq_false_iff]
                intro h
                rcases (ndB_iff _ _ _ _).1 h with h | h | ⟨x, hx, h⟩ | h | h | h | ⟨h, _⟩
                · exact HQ0.out.1 h
                · exact HQ0.out.2 h
                · exact HK.out x hx h
                · exact eq_no (t := nMan) (by rw [man_l]; exact hq1) h
                · exact eq_no (t := nDur) (by rw [dur_l]; exact hq2) h
                · exact eq_no (t := nDurN) (by rw [durn_l]; exact hq3) h
                · unfold eqE at h; rw [hq4] at h; cases h)
            go_wp2_with fail
            go_ret
            exact ⟨by rw [HV.out]; rfl, HBF.out⟩
end Go.Proofs.YtglkndoghnblcaaGreatDoor
