/- Disks: DiskSteps. -/
import Derived.Test.YtbjhcbiihekceaaDh1
namespace Go.Proofs.Ytbjhcbiihekceaa
open Go.ChangeShapes Go.WideShapes Go.ChangeAt Go.RowKit Go.Maps Go.Shelf
set_option linter.unusedVariables false
set_option linter.unusedSimpArgs false
/-- Steps that lie below B come to no harm. -/
theorem StepOk.at {W : World} {x : StepV} {B : Nat} (w : World) (h : StepOk w x) (hB : w.heap.size = B) (b : Below B w W) (hd : x.dn ≤ 300000) (hk : x.kn ≤ 1000000) : StepAt W (fun k => B ≤ k) x.v := by
  subst hB
  refine ⟨x.kd, x.sA, x.sB, x.da, x.ka, x.dn, x.dc, x.kn, x.kc, x.D, x.ks, rfl, h.a, h.b, h.dn, hd, h.byt, h.ls.below b, ?_, h.kn, h.kps.below b, h.nms, hk⟩
  rintro g hg h0 hb
  obtain ⟨b', o, e, hc⟩ := h.ls.rd 0 (by rw [h.dn]; exact h0)
  rw [hg] at e
  cases e
  have := cell_lt hc
  simp only at hb
  omega
theorem two_new {w w1 w2 : World} {rm p bm q : Nat} (h : DC w1 p bm rm [] (fun k => w.heap.size ≤ k)) (hs : w.heap.size ≤ w1.heap.size) (hb : Below w1.heap.size w1 w2) (h2 : RDC w2 q rm [] (fun k => w1.heap.size ≤ k)) : Two w2 p bm q rm [] [] (fun k => w.heap.size ≤ k) :=
  ⟨fun k => w.heap.size ≤ k ∧ k < w1.heap.size, fun k => w1.heap.size ≤ k, (h.mono fun k hk hl => ⟨hk, hl⟩).below hb, h2, fun k h h' => by omega, fun k h => h.1, fun k h => by omega⟩
set_option maxRecDepth 100000 in
set_option maxHeartbeats 4000000 in
/-- DiskSteps (3). -/
theorem steps_law (room : Int) (a : Option Addr) (L : List StepV) (n c : Nat) (leave : Int) (w : World) (hn : L.length = n) (hR : StepsR w a L) (hOk : ∀ x ∈ L, StepOk w x) :
    Calls Try.prog 3 #[.int .i64 room, .slice a n c, .int .i64 leave] w fun e w' => e = .returned (.bool true) ∧ Below w.heap.size w w' := by
  have HN := Lib.hid hn
  have HR := Lib.hid hR
  have HOK := Lib.hid hOk
  clear hn hR hOk
  by_cases hr : room < 1024 ∨ 1048576 < room
  · go_enter Try.func3, Try.ntmps3
    go_wp2_with fail
    refine (dnew_bad room hr w).mono ?_
    rintro e w' ⟨rfl, rfl⟩
    go_wp2_with fail
    refine (rnew_bad room hr w).mono ?_
    rintro e w' ⟨rfl, rfl⟩
    go_wp2_with (first
      | (go_at_call 14; refine (dnum_law _ _).mono ?_; rintro e w' ⟨rfl, rfl⟩)
      | (go_at_call 15; refine (dknown_law _).mono ?_; rintro e w3 ⟨rfl, hb⟩; have HB3 := Lib.hid hb; clear hb))
    go_ret
    exact ⟨rfl, HB3.out⟩
  · obtain ⟨rm, rfl⟩ : ∃ rm : Nat, room = (rm : Int) := ⟨room.toNat, by omega⟩
    have hr1 : 1024 ≤ rm := by omega
    have hr2 : rm ≤ 1048576 := by omega
    clear hr
    go_enter Try.func3, Try.ntmps3
    go_wp2_with fail
    refine (c_new rm hr1 hr2 w).mono ?_
    rintro e w1 ⟨rfl, hd, hb1⟩
    have HD := Lib.hid hd
    have HB1 := Lib.hid hb1
    clear hd hb1
    go_wp2_with fail
    refine (rnew_law rm hr1 hr2 w1).mono ?_
    rintro e w2 ⟨rfl, hr', hb2⟩
    have HT := Lib.hid (two_new HD.out HB1.out.size hb2 hr')
    have HB2 := Lib.hid (step_below HB1.out hb2)
    clear hr' hb2 HD
    go_wp2_with (go_at_call 14; refine (dnum_law _ _).mono ?_; rintro e w' ⟨rfl, rfl⟩)
    refine (much_law a L n c w2 HN.out (HR.out.below HB2.out) (fun x hx => (HOK.out x hx).below HB2.out)).mono ?_
    rintro e w3 ⟨b, rfl, hb3, hm⟩
    have HB3 := Lib.hid (step_below HB2.out hb3)
    have HT3 := Lib.hid (HT.out.below hb3)
    have HM := Lib.hid hm
    clear hb3 hm HB2 HT
    cases b with
    | true =>
      go_wp2_with (go_at_call 15; refine (dknown_law _).mono ?_; rintro e w4 ⟨rfl, hb⟩; have HB4 := Lib.hid (step_below HB3.out hb); clear hb)
      go_ret
      exact ⟨rfl, HB4.out⟩
    | false =>
      go_wp2_with fail
      go_loopw [7, 9, 10] (fun d r i wr => ∃ (k p bm q : Nat) (C : List CF), k ≤ n ∧ k ≤ 100 ∧ d = .pointer (some ⟨p, 0, none⟩) ∧ r = .pointer (some ⟨q, 0, none⟩) ∧ i = .int .i64 (k : Int) ∧ Two wr p bm q rm C C (fun k => w.heap.size ≤ k) ∧ Below w.heap.size w wr) (fun _ _ i _ => n - (intOf i).toNat)
      case atStart => exact ⟨0, _, _, _, [], Nat.zero_le _, by omega, rfl, rfl, rfl, HT3.out, HB3.out⟩
      case round =>
        obtain ⟨k, p, bm, q, C, hk, hk100, rfl, rfl, rfl, ht, hbw⟩ := hrel
        clear HT3 HB3 HB1
        have HT := Lib.hid ht
        have HBW := Lib.hid hbw
        clear ht hbw
        by_cases hc : k < n ∧ k < 100
        · have d1 : (k : Int) < (n : Int) := by omega
          have d2 : (k : Int) < 100 := by omega
          obtain ⟨x, hx⟩ : ∃ x, L[k]? = some x := ⟨_, List.getElem?_eq_getElem (by rw [HN.out]; exact hc.1)⟩
          have HX := Lib.hid hx
          obtain ⟨hd1, hd2⟩ := HM.out (by first | rfl | trivial) k x hc.2 hx
          obtain ⟨b, off, rfl, c0, c1, c2, c3, c4⟩ := (HR.out.below HBW.out) k x hx
          have HO := Lib.hid (HOK.out x (List.mem_of_getElem? hx))
          clear hx
          go_wp2_with fail
          refine (c_do HT.out (fun k hk => Nat.le_trans HBW.out.size hk) x.v (StepOk.at w HO.out rfl HBW.out hd1 hd2)).mono ?_
          rintro e w4 ⟨p', bm', q', C', rfl, ht4, ho4⟩
          have HB4 := Lib.hid (Off.below HBW.out ho4 HBW.out.size (fun k hk => hk))
          have HT4 := Lib.hid ht4
          clear c0 c1 c2 c3 c4 ht4 ho4
          obtain ⟨b', off', e', c0, c1, c2, c3, c4⟩ := (HR.out.below HB4.out) k x HX.out
          cases e'
          obtain ⟨O, hdc⟩ := HT4.out.ex
          obtain ⟨O', hrc⟩ := HT4.out.ex'
          have HDR := Lib.hid (And.intro hdc hrc)
          clear hdc hrc
          go_wp2_with fail
          refine (c_stands HDR.out.1 HDR.out.2 x.kd x.sA x.sB HO.out.a x.da x.ka x.dn x.dc x.kn x.kc leave).mono ?_
          rintro e w5 ⟨rfl, hb5⟩
          have HB5 := Lib.hid hb5
          clear hb5
          go_wp2_with fail
          go_roundw
          case rel => exact ⟨k + 1, p', bm', q', C', by omega, by omega, rfl, rfl, by go_num, HT4.out.below HB5.out, step_below HB4.out HB5.out⟩
          case measure => simp [intOf]; omega
        · by_cases h1 : k < n
          · have d1 : (k : Int) < (n : Int) := by omega
            have d2 : ¬ (k : Int) < 100 := by omega
            clear hc
            go_wp2_with (go_at_call 15; refine (dknown_law _).mono ?_; rintro e w6 ⟨rfl, hb⟩; have HB6 := Lib.hid (step_below HBW.out hb); clear hb)
            go_ret
            exact ⟨rfl, HB6.out⟩
          · have d1 : ¬ (k : Int) < (n : Int) := by omega
            clear hc
            go_wp2_with (go_at_call 15; refine (dknown_law _).mono ?_; rintro e w6 ⟨rfl, hb⟩; have HB6 := Lib.hid (step_below HBW.out hb); clear hb)
            go_ret
            exact ⟨rfl, HB6.out⟩
end Go.Proofs.Ytbjhcbiihekceaa
