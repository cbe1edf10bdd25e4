/- What perms say is what the chapter says: the law's walk. -/
import Derived.Test.YtochdmdojcfceaaReads
import Derived.Test.YtochdmdojcfceaaIns
namespace Go.Proofs.Ytochdmdojcfceaa
open Go.ChangeShapes Go.WideShapes Go.ChangeAt Go.RowKit Go.Shelf
open PM
set_option linter.unusedVariables false
set_option linter.unusedSimpArgs false
theorem used_is (n : Nat) (l : List Nat) (ho : okB l = true) (h : Wrd n l) (w : World) :
    Calls Try.prog 19 #[.int .u64 ((enc (n :: l) : Nat) : Int)] w fun e w' => ∃ a cap, e = .returned (.slice a n cap) ∧ Rd w' a (ints (l.take n)) ∧ Below w.heap.size w w' := by
  have hc : cV n l = n := by rw [cV, if_pos ho]
  have hl : (l.take n).length = n := by have := h.len; have := h.n16; rw [List.length_take]; omega
  refine (used_rd n l (l.take n) (by rw [usV_take n l h, hc]) h w).mono ?_
  rintro e w' ⟨a, cap, h1, _, h2, _, _, h3⟩
  exact ⟨a, cap, by rw [h1, hl], h2, h3⟩
theorem free_is (n : Nat) (l : List Nat) (ho : okB l = true) (h : Wrd n l) (w : World) :
    Calls Try.prog 20 #[.int .u64 ((enc (n :: l) : Nat) : Int)] w fun e w' => ∃ a cap, e = .returned (.slice a (15 - n) cap) ∧ Rd w' a (ints (l.drop n)) ∧ Below w.heap.size w w' := by
  have hl : (l.drop n).length = 15 - n := by have := h.len; rw [List.length_drop]; omega
  refine (free_rd n l (l.drop n) (by rw [frV, if_pos ho]) h w).mono ?_
  rintro e w' ⟨a, cap, h1, _, h2, _, h3⟩
  exact ⟨a, cap, by rw [h1, hl], h2, h3⟩
structure KR (w : World) (B n : Nat) (l : List Nat) (W : World) : Prop where
  pb : PB W B n l
  below : Below w.heap.size w W
theorem KR.drew {w : World} {B n : Nat} {l : List Nat} {W : World} (h : KR w B n l W) : KR w B n l W.drew := ⟨⟨h.pb.c0, h.pb.cell, h.pb.free⟩, h.below.drew⟩
theorem KR.next {w : World} {B n : Nat} {l : List Nat} {W W' : World} (h : KR w B n l W) (b : Below W.heap.size W W') : KR w B n l W' := ⟨h.pb.below b, step_below h.below b⟩
set_option maxRecDepth 100000 in
set_option maxHeartbeats 4000000 in
theorem reads_some (n : Nat) (l : List Nat) (i : Int) (a : Option Addr) (L : List Int) (cap : Nat) (leave : Int) (h : Wrd n l) (ho : okB l = true) (hL : L.length ≤ 2000) (w : World) (hR : Rd w a L) (hnone : a = none → L = [] ∧ cap = 0) :
    Calls Try.prog 3 #[.int .u64 ((enc (n :: l) : Nat) : Int), .int .i64 i, .slice a L.length cap, .int .i64 leave] w fun e w' => e = .returned (.bool true) ∧ Below w.heap.size w w' := by
  have hc : cV n l = n := by rw [cV, if_pos ho]
  have HW := Lib.hid h
  have HO := Lib.hid ho
  have HC := Lib.hid hc
  have HR := Lib.hid hR
  have HNO := Lib.hid hnone
  have HU := Lib.hid ((show usV n l = l.take n by rw [usV_take n l h, hc]))
  have HF := Lib.hid (show frV n l = l.drop n by rw [frV, if_pos ho])
  have hrdv : rdV n l = pvl n l := by rw [rdV, if_pos ho]
  have hlen := h.len
  have h16 := h.n16
  have HRD := Lib.hid hrdv
  clear h ho hc hR hnone hrdv
  obtain ⟨m, hm⟩ : ∃ m, L.length = m := ⟨_, rfl⟩
  have HM := Lib.hid hm
  rw [hm] at hL ⊢
  clear hm
  have hmi : ¬ 2000 < (m : Int) := by omega
  go_enter Try.func3, Try.ntmps3
  go_wp2_with fail
  refine (read_law n l HW.out w).mono ?_; rintro e w1 ⟨rfl, B⟩
  rw [HRD.out, HO.out]
  have P1 := pb_new w1 0
  simp only [Int.ofNat_zero, Int.natCast_zero] at P1
  have HTH := Lib.hid (P1.there (pvl n l).toArray (pvl_size _ _))
  have HONE := Lib.hid (all_oneCell_toArray (pvl_one n l))
  have HINF := Lib.hid (info27a n l)
  have HS := Lib.hid (show ∃ W2, World.setCells (w1.alloc (.cells #[.int .i64 0, .int .i64 0, .int .i64 0, .int .i64 0, .int .i64 0, .int .i64 0, .int .i64 0, .int .i64 0, .int .i64 0, .int .i64 0, .int .i64 0, .int .i64 0, .int .i64 0, .int .i64 0, .int .i64 0, .int .i64 0] 27)) w1.heap.size 0 (pvl n l) = W2 ∧ PB W2 w1.heap.size n l ∧ Below w.heap.size w W2 from ⟨_, rfl, P1.stored n l, below_setCells _ B.size _ _ _ (B.alloc B.size _)⟩)
  clear P1 B
  obtain ⟨a0, h0⟩ : ∃ a, l.getD 0 0 = a := ⟨_, rfl⟩
  obtain ⟨a1, h1⟩ : ∃ a, l.getD 1 0 = a := ⟨_, rfl⟩
  obtain ⟨a2, h2⟩ : ∃ a, l.getD 2 0 = a := ⟨_, rfl⟩
  obtain ⟨a3, h3⟩ : ∃ a, l.getD 3 0 = a := ⟨_, rfl⟩
  obtain ⟨a4, h4⟩ : ∃ a, l.getD 4 0 = a := ⟨_, rfl⟩
  obtain ⟨a5, h5⟩ : ∃ a, l.getD 5 0 = a := ⟨_, rfl⟩
  obtain ⟨a6, h6⟩ : ∃ a, l.getD 6 0 = a := ⟨_, rfl⟩
  obtain ⟨a7, h7⟩ : ∃ a, l.getD 7 0 = a := ⟨_, rfl⟩
  obtain ⟨a8, h8⟩ : ∃ a, l.getD 8 0 = a := ⟨_, rfl⟩
  obtain ⟨a9, h9⟩ : ∃ a, l.getD 9 0 = a := ⟨_, rfl⟩
  obtain ⟨a10, h10⟩ : ∃ a, l.getD 10 0 = a := ⟨_, rfl⟩
  obtain ⟨a11, h11⟩ : ∃ a, l.getD 11 0 = a := ⟨_, rfl⟩
  obtain ⟨a12, h12⟩ : ∃ a, l.getD 12 0 = a := ⟨_, rfl⟩
  obtain ⟨a13, h13⟩ : ∃ a, l.getD 13 0 = a := ⟨_, rfl⟩
  obtain ⟨a14, h14⟩ : ∃ a, l.getD 14 0 = a := ⟨_, rfl⟩
  have hop := pvl_open n l a0 a1 a2 a3 a4 a5 a6 a7 a8 a9 a10 a11 a12 a13 a14 h0 h1 h2 h3 h4 h5 h6 h7 h8 h9 h10 h11 h12 h13 h14
  have HOP := Lib.hid hop
  have HCC := Lib.hid (show ∀ W, PB W w1.heap.size n l → W.cell? ⟨w1.heap.size, 0, none⟩ = some (.int .i64 (n : Int)) ∧ W.cell? ⟨w1.heap.size, 1, none⟩ = some (.int .i64 (a0 : Int)) ∧ W.cell? ⟨w1.heap.size, 2, none⟩ = some (.int .i64 (a1 : Int)) ∧ W.cell? ⟨w1.heap.size, 3, none⟩ = some (.int .i64 (a2 : Int)) ∧ W.cell? ⟨w1.heap.size, 4, none⟩ = some (.int .i64 (a3 : Int)) ∧ W.cell? ⟨w1.heap.size, 5, none⟩ = some (.int .i64 (a4 : Int)) ∧ W.cell? ⟨w1.heap.size, 6, none⟩ = some (.int .i64 (a5 : Int)) ∧ W.cell? ⟨w1.heap.size, 7, none⟩ = some (.int .i64 (a6 : Int)) ∧ W.cell? ⟨w1.heap.size, 8, none⟩ = some (.int .i64 (a7 : Int)) ∧ W.cell? ⟨w1.heap.size, 9, none⟩ = some (.int .i64 (a8 : Int)) ∧ W.cell? ⟨w1.heap.size, 10, none⟩ = some (.int .i64 (a9 : Int)) ∧ W.cell? ⟨w1.heap.size, 11, none⟩ = some (.int .i64 (a10 : Int)) ∧ W.cell? ⟨w1.heap.size, 12, none⟩ = some (.int .i64 (a11 : Int)) ∧ W.cell? ⟨w1.heap.size, 13, none⟩ = some (.int .i64 (a12 : Int)) ∧ W.cell? ⟨w1.heap.size, 14, none⟩ = some (.int .i64 (a13 : Int)) ∧ W.cell? ⟨w1.heap.size, 15, none⟩ = some (.int .i64 (a14 : Int)) from fun W hP => ⟨hP.c0, by rw [← h0]; exact hP.cell 0 (by omega), by rw [← h1]; exact hP.cell 1 (by omega), by rw [← h2]; exact hP.cell 2 (by omega), by rw [← h3]; exact hP.cell 3 (by omega), by rw [← h4]; exact hP.cell 4 (by omega), by rw [← h5]; exact hP.cell 5 (by omega), by rw [← h6]; exact hP.cell 6 (by omega), by rw [← h7]; exact hP.cell 7 (by omega), by rw [← h8]; exact hP.cell 8 (by omega), by rw [← h9]; exact hP.cell 9 (by omega), by rw [← h10]; exact hP.cell 10 (by omega), by rw [← h11]; exact hP.cell 11 (by omega), by rw [← h12]; exact hP.cell 12 (by omega), by rw [← h13]; exact hP.cell 13 (by omega), by rw [← h14]; exact hP.cell 14 (by omega)⟩)
  have RU := Lib.hid (show ∀ W, Calls Try.prog 10 #[.agg #[.int .i64 (n : Int), .int .i64 (a0 : Int), .int .i64 (a1 : Int), .int .i64 (a2 : Int), .int .i64 (a3 : Int), .int .i64 (a4 : Int), .int .i64 (a5 : Int), .int .i64 (a6 : Int), .int .i64 (a7 : Int), .int .i64 (a8 : Int), .int .i64 (a9 : Int), .int .i64 (a10 : Int), .int .i64 (a11 : Int), .int .i64 (a12 : Int), .int .i64 (a13 : Int), .int .i64 (a14 : Int)]] W fun e w' => ∃ a cap, e = .returned (.slice a n cap) ∧ n ≤ cap ∧ Rd w' a (ints (l.take n)) ∧ (0 < n → ∃ g, a = some ⟨g, 0, none⟩) ∧ Below W.heap.size W w' from fun W => by have := rused_law n l HW.out W; rwa [hop] at this)
  have RF := Lib.hid (show ∀ W, Calls Try.prog 11 #[.agg #[.int .i64 (n : Int), .int .i64 (a0 : Int), .int .i64 (a1 : Int), .int .i64 (a2 : Int), .int .i64 (a3 : Int), .int .i64 (a4 : Int), .int .i64 (a5 : Int), .int .i64 (a6 : Int), .int .i64 (a7 : Int), .int .i64 (a8 : Int), .int .i64 (a9 : Int), .int .i64 (a10 : Int), .int .i64 (a11 : Int), .int .i64 (a12 : Int), .int .i64 (a13 : Int), .int .i64 (a14 : Int)]] W fun e w' => ∃ a cap, e = .returned (.slice a (15 - n) cap) ∧ 15 - n ≤ cap ∧ Rd w' a (ints (l.drop n)) ∧ (0 < 15 - n → ∃ g, a = some ⟨g, 0, none⟩) ∧ Below W.heap.size W w' from fun W => by have := rfree_law n l HW.out W; rwa [hop] at this)
  clear h0 h1 h2 h3 h4 h5 h6 h7 h8 h9 h10 h11 h12 h13 h14
  rw [hop] at HTH HONE HINF HS
  clear hop
  rw [HOP.out]
  go_wp2_with (refine wpList_store_mid rfl 27 (.tmp 9) (.tmp 28) rfl w1.heap.size 0 [.int .i64 (n : Int), .int .i64 (a0 : Int), .int .i64 (a1 : Int), .int .i64 (a2 : Int), .int .i64 (a3 : Int), .int .i64 (a4 : Int), .int .i64 (a5 : Int), .int .i64 (a6 : Int), .int .i64 (a7 : Int), .int .i64 (a8 : Int), .int .i64 (a9 : Int), .int .i64 (a10 : Int), .int .i64 (a11 : Int), .int .i64 (a12 : Int), .int .i64 (a13 : Int), .int .i64 (a14 : Int)].toArray rfl rfl HTH.out HINF.out HONE.out ?_; obtain ⟨W2, hW2, P2, B⟩ := HS.out; (first | rw [hW2] | (change wpList _ _ _ _ _ (World.setCells _ _ _ [.int .i64 (n : Int), .int .i64 (a0 : Int), .int .i64 (a1 : Int), .int .i64 (a2 : Int), .int .i64 (a3 : Int), .int .i64 (a4 : Int), .int .i64 (a5 : Int), .int .i64 (a6 : Int), .int .i64 (a7 : Int), .int .i64 (a8 : Int), .int .i64 (a9 : Int), .int .i64 (a10 : Int), .int .i64 (a11 : Int), .int .i64 (a12 : Int), .int .i64 (a13 : Int), .int .i64 (a14 : Int)]); rw [hW2])); clear hW2; skip)
  have HQ := Lib.hid (show ∀ W, KR w w1.heap.size n l W → W.cell? ⟨w1.heap.size, 0, none⟩ = some (.int .i64 (n : Int)) ∧ W.cell? ⟨w1.heap.size, 1, none⟩ = some (.int .i64 (a0 : Int)) ∧ W.cell? ⟨w1.heap.size, 2, none⟩ = some (.int .i64 (a1 : Int)) ∧ W.cell? ⟨w1.heap.size, 3, none⟩ = some (.int .i64 (a2 : Int)) ∧ W.cell? ⟨w1.heap.size, 4, none⟩ = some (.int .i64 (a3 : Int)) ∧ W.cell? ⟨w1.heap.size, 5, none⟩ = some (.int .i64 (a4 : Int)) ∧ W.cell? ⟨w1.heap.size, 6, none⟩ = some (.int .i64 (a5 : Int)) ∧ W.cell? ⟨w1.heap.size, 7, none⟩ = some (.int .i64 (a6 : Int)) ∧ W.cell? ⟨w1.heap.size, 8, none⟩ = some (.int .i64 (a7 : Int)) ∧ W.cell? ⟨w1.heap.size, 9, none⟩ = some (.int .i64 (a8 : Int)) ∧ W.cell? ⟨w1.heap.size, 10, none⟩ = some (.int .i64 (a9 : Int)) ∧ W.cell? ⟨w1.heap.size, 11, none⟩ = some (.int .i64 (a10 : Int)) ∧ W.cell? ⟨w1.heap.size, 12, none⟩ = some (.int .i64 (a11 : Int)) ∧ W.cell? ⟨w1.heap.size, 13, none⟩ = some (.int .i64 (a12 : Int)) ∧ W.cell? ⟨w1.heap.size, 14, none⟩ = some (.int .i64 (a13 : Int)) ∧ W.cell? ⟨w1.heap.size, 15, none⟩ = some (.int .i64 (a14 : Int)) ∧ KR w w1.heap.size n l W from fun W h => by
    have := HCC.out W h.pb
    exact ⟨this.1, this.2.1, this.2.2.1, this.2.2.2.1, this.2.2.2.2.1, this.2.2.2.2.2.1, this.2.2.2.2.2.2.1, this.2.2.2.2.2.2.2.1, this.2.2.2.2.2.2.2.2.1, this.2.2.2.2.2.2.2.2.2.1, this.2.2.2.2.2.2.2.2.2.2.1, this.2.2.2.2.2.2.2.2.2.2.2.1, this.2.2.2.2.2.2.2.2.2.2.2.2.1, this.2.2.2.2.2.2.2.2.2.2.2.2.2.1, this.2.2.2.2.2.2.2.2.2.2.2.2.2.2.1, this.2.2.2.2.2.2.2.2.2.2.2.2.2.2.2, h⟩)
  have KW : KR w w1.heap.size n l W2 := ⟨P2, B⟩
  clear P2 B
  go_region_held3 (fun W => W.cell? ⟨w1.heap.size, 0, none⟩ = some (.int .i64 (n : Int)) ∧ W.cell? ⟨w1.heap.size, 1, none⟩ = some (.int .i64 (a0 : Int)) ∧ W.cell? ⟨w1.heap.size, 2, none⟩ = some (.int .i64 (a1 : Int)) ∧ W.cell? ⟨w1.heap.size, 3, none⟩ = some (.int .i64 (a2 : Int)) ∧ W.cell? ⟨w1.heap.size, 4, none⟩ = some (.int .i64 (a3 : Int)) ∧ W.cell? ⟨w1.heap.size, 5, none⟩ = some (.int .i64 (a4 : Int)) ∧ W.cell? ⟨w1.heap.size, 6, none⟩ = some (.int .i64 (a5 : Int)) ∧ W.cell? ⟨w1.heap.size, 7, none⟩ = some (.int .i64 (a6 : Int)) ∧ W.cell? ⟨w1.heap.size, 8, none⟩ = some (.int .i64 (a7 : Int)) ∧ W.cell? ⟨w1.heap.size, 9, none⟩ = some (.int .i64 (a8 : Int)) ∧ W.cell? ⟨w1.heap.size, 10, none⟩ = some (.int .i64 (a9 : Int)) ∧ W.cell? ⟨w1.heap.size, 11, none⟩ = some (.int .i64 (a10 : Int)) ∧ W.cell? ⟨w1.heap.size, 12, none⟩ = some (.int .i64 (a11 : Int)) ∧ W.cell? ⟨w1.heap.size, 13, none⟩ = some (.int .i64 (a12 : Int)) ∧ W.cell? ⟨w1.heap.size, 14, none⟩ = some (.int .i64 (a13 : Int)) ∧ W.cell? ⟨w1.heap.size, 15, none⟩ = some (.int .i64 (a14 : Int)) ∧ KR w w1.heap.size n l W)
    (first | (exact HQ.out _ KW.drew) | (go_split_ands; exact HQ.out _ (KR.next ‹_› BU)) | (go_split_ands; exact HQ.out _ (KR.next ‹_› BF)) | (go_split_ands; exact HQ.out _ ‹_›))
    (first | (go_at_call 10; refine (RU.out _).mono ?_; rintro e WU ⟨aU, cU, rfl, capU, rU, sU, BU⟩) | (go_at_call 11; refine (RF.out _).mono ?_; rintro e WF ⟨aF, cF, rfl, capF, rF, sF, BF⟩))
  have hk : KR w w1.heap.size n l WF := by go_split_ands; assumption
  have B0 := hk.below
  have RDU := Lib.hid (show ∀ (W : World), Below WF.heap.size WF W → Rd W aU (ints (l.take n)) from fun W b => (rU.below BF).below b)
  have RDF := Lib.hid (show ∀ (W : World), Below WF.heap.size WF W → Rd W aF (ints (l.drop n)) from fun W b => rF.below b)
  have HLU := Lib.hid (show (ints (l.take n)).length = n by rw [ints_length, List.length_take, hlen]; omega)
  have HLF := Lib.hid (show (ints (l.drop n)).length = 15 - n by rw [ints_length, List.length_drop, hlen])
  have HB0 := Lib.hid B0
  have B : Below WF.heap.size WF WF := Below.refl _ _
  clear hk B0 rU rF BF BU sU sF HQ HCC RU RF KW
  go_wp2_with fail
  obtain ⟨⟨x1, e1⟩, hx1⟩ : ∃ x, atV n l i = x := ⟨_, rfl⟩
  obtain ⟨⟨x2, e2⟩, hx2⟩ : ∃ x, ofV L = x := ⟨_, rfl⟩
  have HX1 := Lib.hid hx1
  have HX2 := Lib.hid hx2
  clear hx1 hx2
  refine (At_law n l i HW.out _).mono ?_; rintro e w3 ⟨rfl, B3⟩
  rw [HX1.out]
  replace B := step_below B B3
  clear B3
  go_wp2_with fail
  refine (rat_law n l i HW.out _).mono ?_; rintro e w4 ⟨rfl, B4⟩
  rw [HX1.out]
  replace B := step_below B B4
  clear B4
  go_wp2_with fail
  have OL := of_law a L cap (by have := HM.out; omega) _ (HR.out.below (HB0.out.trans (B.mono HB0.out.size)))
  rw [HM.out] at OL
  refine OL.mono ?_; rintro e w5 ⟨rfl, B5⟩
  rw [HX2.out]
  replace B := step_below B B5
  clear B5 OL
  go_wp2_with fail
  have OL := rof_law a L cap (by have := HM.out; omega) _ (HR.out.below (HB0.out.trans (B.mono HB0.out.size))) HNO.out
  rw [HM.out] at OL
  refine OL.mono ?_; rintro e w6 ⟨rfl, B6⟩
  rw [HX2.out]
  replace B := step_below B B6
  clear B6 OL
  go_wp2_with fail
  refine (may_law n l HW.out _).mono ?_; rintro e w7 ⟨rfl, B7⟩
  rw [HO.out]
  replace B := step_below B B7
  clear B7
  go_wp2_with fail
  refine (count_law n l HW.out _).mono ?_; rintro e w8 ⟨rfl, B8⟩
  rw [HC.out]
  replace B := step_below B B8
  clear B8
  go_wp2_with fail
  refine (used_is n l HO.out HW.out _).mono ?_; rintro e w9 ⟨a9, c9, rfl, R9, B9⟩
  replace B := step_below B B9
  replace R9 := Lib.hid R9
  clear B9
  go_wp2_with fail
  refine (same_rd _ _ (ints (l.take n)) n _ _ HLU.out (by omega) _ R9.out (RDU.out _ B)).mono ?_; rintro e w10 ⟨rfl, B10⟩
  replace B := step_below B B10
  clear B10
  go_wp2_with fail
  refine (free_is n l HO.out HW.out _).mono ?_; rintro e w9 ⟨a9, c9, rfl, R9, B9⟩
  replace B := step_below B B9
  replace R9 := Lib.hid R9
  clear B9
  go_wp2_with fail
  refine (same_rd _ _ (ints (l.drop n)) (15 - n) _ _ HLF.out (by omega) _ R9.out (RDF.out _ B)).mono ?_; rintro e w10 ⟨rfl, B10⟩
  replace B := step_below B B10
  clear B10
  go_wp2_with fail
  refine (num_law _ _).mono ?_; rintro e w' ⟨rfl, rfl⟩
  go_wp2_with fail
  refine (num_law _ _).mono ?_; rintro e w' ⟨rfl, rfl⟩
  go_wp2_with fail
  refine (once_law n l HW.out n HC.out _ _ _ _ (by rw [HU.out]; exact RDU.out _ B)).mono ?_; rintro e w11 ⟨rfl, B11⟩
  replace B := step_below B B11
  clear B11
  go_wp2_with fail
  refine (once_law n l HW.out n HC.out _ _ _ _ (by rw [HU.out]; exact RDU.out _ B)).mono ?_; rintro e w12 ⟨rfl, B12⟩
  replace B := step_below B B12
  clear B12
  go_wp2_with fail
  refine (first_law _).mono ?_; rintro e w13 ⟨rfl, B13⟩
  replace B := step_below B B13
  clear B13
  go_wp2_with fail
  refine (rfirst_law _).mono ?_; rintro e w14 ⟨rfl, B14⟩
  replace B := step_below B B14
  clear B14
  go_wp2_with fail
  refine (known_law _).mono ?_; rintro e w15 ⟨rfl, B15⟩
  replace B := step_below B B15
  clear B15
  go_wp2_with fail
  go_ret
  exact ⟨rfl, step_below HB0.out B⟩

set_option maxRecDepth 100000 in
set_option maxHeartbeats 1000000 in
theorem reads_long (p : Int) (i : Int) (a : Option Addr) (n cap : Nat) (leave : Int) (h : 2000 < n) (w : World) :
    Calls Try.prog 3 #[.int .u64 p, .int .i64 i, .slice a n cap, .int .i64 leave] w fun e w' => e = .returned (.bool true) ∧ Below w.heap.size w w' := by
  have h1i : 2000 < (n : Int) := by omega
  go_enter Try.func3, Try.ntmps3
  go_wp2_with fail
  refine (known_law _).mono ?_; rintro e W9 ⟨rfl, B9⟩
  go_wp2
  go_ret
  exact ⟨rfl, B9⟩
theorem IsRow.none_nil {w : World} {a : Option Addr} {len cap : Nat} {zs : List Int} (h : IsRow .i64 w a len cap zs) : a = none → zs.take len = [] ∧ cap = 0 := fun e => by
  rcases h with ⟨_, rfl, rfl, rfl⟩ | ⟨y, rfl, _⟩
  · exact ⟨rfl, rfl⟩
  · cases e
theorem reads_law (p : Int) (i : Int) (a : Option Addr) (len cap : Nat) (zs : List Int) (leave : Int) (h0 : 0 ≤ p) (h1 : p < 18446744073709551616) (w : World) (hz : IsRow .i64 w a len cap zs) :
    Calls Try.prog 3 #[.int .u64 p, .int .i64 i, .slice a len cap, .int .i64 leave] w fun e w' => e = .returned (.bool true) ∧ Below w.heap.size w w' := by
  by_cases hl : len ≤ 2000
  · obtain ⟨n, l, h, rfl⟩ := word_of p h0 h1
    obtain ⟨hr, hlen⟩ := hz.rd
    have hn := hz.none_nil
    generalize zs.take len = L at *
    subst hlen
    cases ho : okB l
    · exact reads_none n l i a L cap leave h ho hl w hr hn
    · exact reads_some n l i a L cap leave h ho hl w hr hn
  · exact reads_long p i a len cap leave (by omega) w
end Go.Proofs.Ytochdmdojcfceaa
