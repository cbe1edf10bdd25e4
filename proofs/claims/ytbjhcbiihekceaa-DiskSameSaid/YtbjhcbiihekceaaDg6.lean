/- Disks: one step: Crash. -/
import Derived.Test.YtbjhcbiihekceaaDg5
namespace Go.Proofs.Ytbjhcbiihekceaa
open Go.ChangeShapes Go.WideShapes Go.ChangeAt Go.RowKit Go.Maps Go.Shelf
set_option linter.unusedVariables false
set_option linter.unusedSimpArgs false
set_option maxRecDepth 100000 in
set_option maxHeartbeats 4000000 in
theorem do_5 {w : World} {p bm q room : Nat} {C : List CF} {S : Nat → Prop} (h : Two w p bm q room C C S) (hS : ∀ k, w.heap.size ≤ k → S k) (sA sB : ByteArray) (da ka : Option Addr) (dn dc kn kc : Nat)
    (ks : List (ByteArray × Int)) (hn : ks.length = kn) (hK : Kps w ka ks) (hKs : ∀ k ∈ ks, k.1.size ≤ maxLen) (hKl : kn ≤ 1000000) :
    Calls Try.prog 17 #[.pointer (some ⟨p, 0, none⟩), .pointer (some ⟨q, 0, none⟩), .agg #[.int .i64 5, .string sA, .string sB, .slice da dn dc, .slice ka kn kc]] w (DoR w room S) := by
  have HF := Lib.hid h.fine
  have H := Lib.hid h
  have HS0 := Lib.hid hS
  have HN := Lib.hid hn
  have HK := Lib.hid hK
  have HKS := Lib.hid hKs
  clear h hS hn hK hKs
  go_enter Try.func17, Try.ntmps17
  go_wp2_with fail
  obtain ⟨W0, hW0⟩ : ∃ W0, w.alloc (.cells #[.int .i64 5, .string sA, .string sB, .slice da dn dc, .slice ka kn kc] 37) = W0 := ⟨_, rfl⟩
  have hb0 : Below w.heap.size w W0 := by rw [← hW0]; exact bl1 _ _
  have bx : BoxC W0 w.heap.size #[.int .i64 5, .string sA, .string sB, .slice da dn dc, .slice ka kn kc] 37 := by rw [← hW0]; exact BoxC.new w _ 37
  have hs0 : W0.heap.size = w.heap.size + 1 := by rw [← hW0, World.size_alloc]
  try rw [hW0]
  clear hW0
  obtain ⟨O, hd⟩ := H.out.ex
  obtain ⟨O', hr⟩ := H.out.ex'
  have HD := Lib.hid (hd.below hb0)
  have HR := Lib.hid (hr.below hb0)
  have HK0 := Lib.hid (HK.out.below hb0)
  have HB0 := Lib.hid hb0
  have c4 : W0.cell? ⟨w.heap.size, 4, none⟩ = some (.slice ka kn kc) := bx.cell 4
  clear hd hr hb0
  go_wp2_with fail
  refine (c_crash HD.out ka ks kn kc HN.out HK0.out HKS.out (by rw [HN.out]; exact hKl)).mono ?_
  rintro e w1 ⟨hb1, x, rfl, hx0, hx1⟩
  have HR1 := Lib.hid (HR.out.below hb1)
  have HK1 := Lib.hid (HK0.out.below hb1)
  have HD1 := Lib.hid (HD.out.below hb1)
  have HB1 := Lib.hid (step_below HB0.out hb1)
  have hs1 : W0.heap.size ≤ w1.heap.size := hb1.size
  have c5 : w1.cell? ⟨w.heap.size, 4, none⟩ = some (.slice ka kn kc) := (hb1.cell (cell_lt c4)).trans c4
  clear hb1 c4 HK0
  by_cases hz : crE C ks = 0
  · obtain ⟨p', bm', rfl, hd1⟩ := hx1 hz
    rw [hz]
    have HDC := Lib.hid hd1
    clear hx0 hx1 hd1
    go_wp2_with fail
    refine (r_crash HR1.out HF.out ka ks kn kc HN.out HK1.out HKS.out hKl).mono ?_
    rintro e w2 ⟨hb2, x, rfl, hx0, hx1⟩
    obtain ⟨q', rfl, hr2⟩ := hx1 hz
    rw [hz]
    have HB2 := Lib.hid (step_below HB1.out hb2)
    have HD2 := Lib.hid (HD1.out.below hb2)
    have HR2 := Lib.hid (HR1.out.below hb2)
    have HDC2 := Lib.hid (HDC.out.mono (O' := fun k => W0.heap.size ≤ k ∧ k < w1.heap.size) (fun k hk h => ⟨hk, h⟩) |>.below hb2)
    have HRC2 := Lib.hid hr2
    have hs2 : w1.heap.size ≤ w2.heap.size := hb2.size
    clear hx0 hx1 hb2 hr2 c5 hz
    go_wp2_with (go_at_call 14; refine (dnum_law _ _).mono ?_; rintro e w' ⟨rfl, rfl⟩)
    refine (c_once HD2.out HR2.out 0).mono ?_
    rintro e w3 ⟨rfl, hb3⟩
    have HB3 := Lib.hid hb3
    clear hb3
    go_wp2_with fail
    refine bodyPost_ret (v := .tuple #[.pointer (some ⟨p', 0, none⟩), .pointer (some ⟨q', 0, none⟩), .bool true]) (by simp [results, Try.f17, go_sem]) rfl ?_
    exact ⟨p', bm', q', _, rfl, ⟨_, _, HDC2.out.below HB3.out, HRC2.out.below HB3.out, fun k hk h => by have := hk.2; omega, fun k hk => HS0.out k (by omega), fun k hk => HS0.out k (by omega)⟩, Off.of (step_below HB2.out HB3.out)⟩
  · have hq := hx0 hz
    subst hq
    obtain ⟨E, hE⟩ : ∃ E, crE C ks = E := ⟨_, rfl⟩
    rw [hE]
    have HE := Lib.hid hE
    clear hx0 hx1 hE
    go_wp2_with fail
    refine (r_crash HR1.out HF.out ka ks kn kc HN.out HK1.out HKS.out hKl).mono ?_
    rintro e w2 ⟨hb2, x, rfl, hx0, hx1⟩
    have hq := hx0 hz
    subst hq
    rw [HE.out]
    have HB2 := Lib.hid (step_below HB1.out hb2)
    clear hx0 hx1 hb2 c5 hz
    go_wp2_with (go_at_call 14; refine (dnum_law _ _).mono ?_; rintro e w' ⟨rfl, rfl⟩)
    refine bodyPost_ret (v := .tuple #[.pointer (some ⟨p, 0, none⟩), .pointer (some ⟨q, 0, none⟩), .bool true]) (by simp [results, Try.f17, go_sem]) rfl ?_
    exact ⟨p, bm, q, C, rfl, H.out.below HB2.out, Off.of HB2.out⟩
end Go.Proofs.Ytbjhcbiihekceaa
