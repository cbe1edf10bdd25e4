/- The reference's Insert, where it puts in. -/
import Derived.Test.YtochdmdojcfceaaRefH
namespace Go.Proofs.Ytochdmdojcfceaa
open Go.ChangeShapes Go.WideShapes Go.ChangeAt Go.RowKit Go.Shelf
open PM
set_option linter.unusedVariables false
set_option linter.unusedSimpArgs false

set_option maxRecDepth 100000 in
set_option maxHeartbeats 4000000 in
theorem rins_ok (n k : Nat) (l : List Nat) (width : Int) (h : Wrd n l) (ho : okB l = true) (hk : k ≤ n) (h3 : 3 ≤ width) (h15 : width ≤ 15) (hnw : (n : Int) < width) (w : World) :
    Calls Try.prog 26 #[.int .u64 ((enc (n :: l) : Nat) : Int), .int .i64 (k : Int), .int .i64 width] w fun e w' => e = .returned (.tuple #[.int .u64 ((enc ((n + 1) :: mvd l n k) : Nat) : Int), .int .i64 ((l.getD n 0 : Nat) : Int), .int .i64 0]) ∧ Below w.heap.size w w' := by
  have HW := Lib.hid h
  have HO := Lib.hid ho
  have hrdv : rdV n l = pvl n l := by rw [rdV, if_pos ho]
  have hlen := h.len
  have h16 := h.n16
  have HRD := Lib.hid hrdv
  clear h ho hrdv
  have q1 : ¬ (k : Int) < 0 := by omega
  have q2 : ¬ (n : Int) < k := by omega
  have q5 : ¬ width < 3 := by omega
  have q6 : ¬ 15 < width := by omega
  have q7 : ¬ width ≤ (n : Int) := by omega
  have hn15 : n < 15 := by omega
  have hK := Lib.hid hk
  have hul := Lib.hid (show (l.take n).length = n by rw [List.length_take]; omega)
  have hfl0 : (l.drop n).length = 15 - n := by rw [List.length_drop]; omega
  clear hk
  go_enter Try.func26, Try.ntmps26
  go_wp2_with fail
  refine (read_law n l HW.out w).mono ?_; rintro e w1 ⟨rfl, B⟩
  rw [HRD.out, HO.out]
  have P1 := pb_new w1 0
  simp only [Int.ofNat_zero, Int.natCast_zero] at P1
  have HTH := Lib.hid (P1.there (pvl n l).toArray (pvl_size _ _))
  have HONE := Lib.hid (all_oneCell_toArray (pvl_one n l))
  have HINF := Lib.hid (info27a n l)
  have HS := Lib.hid (show ∃ W2, World.setCells (w1.alloc (.cells #[.int .i64 0, .int .i64 0, .int .i64 0, .int .i64 0, .int .i64 0, .int .i64 0, .int .i64 0, .int .i64 0, .int .i64 0, .int .i64 0, .int .i64 0, .int .i64 0, .int .i64 0, .int .i64 0, .int .i64 0, .int .i64 0] 27)) w1.heap.size 0 (pvl n l) = W2 ∧ PB W2 w1.heap.size n l ∧ Below w.heap.size w W2 from ⟨_, rfl, P1.stored n l, below_setCells _ B.size _ _ _ (B.alloc B.size _)⟩)
  clear P1 B
  obtain ⟨a0, h0⟩ : ∃ a, l.getD 0 0 = a := ⟨_, rfl⟩
  obtain ⟨a1, h1⟩ : ∃ a, l.getD 1 0 = a := ⟨_, rfl⟩
  obtain ⟨a2, h2⟩ : ∃ a, l.getD 2 0 = a := ⟨_, rfl⟩
  obtain ⟨a3, h3⟩ : ∃ a, l.getD 3 0 = a := ⟨_, rfl⟩
  obtain ⟨a4, h4⟩ : ∃ a, l.getD 4 0 = a := ⟨_, rfl⟩
  obtain ⟨a5, h5⟩ : ∃ a, l.getD 5 0 = a := ⟨_, rfl⟩
  obtain ⟨a6, h6⟩ : ∃ a, l.getD 6 0 = a := ⟨_, rfl⟩
  obtain ⟨a7, h7⟩ : ∃ a, l.getD 7 0 = a := ⟨_, rfl⟩
  obtain ⟨a8, h8⟩ : ∃ a, l.getD 8 0 = a := ⟨_, rfl⟩
  obtain ⟨a9, h9⟩ : ∃ a, l.getD 9 0 = a := ⟨_, rfl⟩
  obtain ⟨a10, h10⟩ : ∃ a, l.getD 10 0 = a := ⟨_, rfl⟩
  obtain ⟨a11, h11⟩ : ∃ a, l.getD 11 0 = a := ⟨_, rfl⟩
  obtain ⟨a12, h12⟩ : ∃ a, l.getD 12 0 = a := ⟨_, rfl⟩
  obtain ⟨a13, h13⟩ : ∃ a, l.getD 13 0 = a := ⟨_, rfl⟩
  obtain ⟨a14, h14⟩ : ∃ a, l.getD 14 0 = a := ⟨_, rfl⟩
  have hop := pvl_open n l a0 a1 a2 a3 a4 a5 a6 a7 a8 a9 a10 a11 a12 a13 a14 h0 h1 h2 h3 h4 h5 h6 h7 h8 h9 h10 h11 h12 h13 h14
  have HOP := Lib.hid hop
  have HCC := Lib.hid (show ∀ W, PB W w1.heap.size n l → W.cell? ⟨w1.heap.size, 0, none⟩ = some (.int .i64 (n : Int)) ∧ W.cell? ⟨w1.heap.size, 1, none⟩ = some (.int .i64 (a0 : Int)) ∧ W.cell? ⟨w1.heap.size, 2, none⟩ = some (.int .i64 (a1 : Int)) ∧ W.cell? ⟨w1.heap.size, 3, none⟩ = some (.int .i64 (a2 : Int)) ∧ W.cell? ⟨w1.heap.size, 4, none⟩ = some (.int .i64 (a3 : Int)) ∧ W.cell? ⟨w1.heap.size, 5, none⟩ = some (.int .i64 (a4 : Int)) ∧ W.cell? ⟨w1.heap.size, 6, none⟩ = some (.int .i64 (a5 : Int)) ∧ W.cell? ⟨w1.heap.size, 7, none⟩ = some (.int .i64 (a6 : Int)) ∧ W.cell? ⟨w1.heap.size, 8, none⟩ = some (.int .i64 (a7 : Int)) ∧ W.cell? ⟨w1.heap.size, 9, none⟩ = some (.int .i64 (a8 : Int)) ∧ W.cell? ⟨w1.heap.size, 10, none⟩ = some (.int .i64 (a9 : Int)) ∧ W.cell? ⟨w1.heap.size, 11, none⟩ = some (.int .i64 (a10 : Int)) ∧ W.cell? ⟨w1.heap.size, 12, none⟩ = some (.int .i64 (a11 : Int)) ∧ W.cell? ⟨w1.heap.size, 13, none⟩ = some (.int .i64 (a12 : Int)) ∧ W.cell? ⟨w1.heap.size, 14, none⟩ = some (.int .i64 (a13 : Int)) ∧ W.cell? ⟨w1.heap.size, 15, none⟩ = some (.int .i64 (a14 : Int)) from fun W hP => ⟨hP.c0, by rw [← h0]; exact hP.cell 0 (by omega), by rw [← h1]; exact hP.cell 1 (by omega), by rw [← h2]; exact hP.cell 2 (by omega), by rw [← h3]; exact hP.cell 3 (by omega), by rw [← h4]; exact hP.cell 4 (by omega), by rw [← h5]; exact hP.cell 5 (by omega), by rw [← h6]; exact hP.cell 6 (by omega), by rw [← h7]; exact hP.cell 7 (by omega), by rw [← h8]; exact hP.cell 8 (by omega), by rw [← h9]; exact hP.cell 9 (by omega), by rw [← h10]; exact hP.cell 10 (by omega), by rw [← h11]; exact hP.cell 11 (by omega), by rw [← h12]; exact hP.cell 12 (by omega), by rw [← h13]; exact hP.cell 13 (by omega), by rw [← h14]; exact hP.cell 14 (by omega)⟩)
  have RU := Lib.hid (show ∀ W, Calls Try.prog 10 #[.agg #[.int .i64 (n : Int), .int .i64 (a0 : Int), .int .i64 (a1 : Int), .int .i64 (a2 : Int), .int .i64 (a3 : Int), .int .i64 (a4 : Int), .int .i64 (a5 : Int), .int .i64 (a6 : Int), .int .i64 (a7 : Int), .int .i64 (a8 : Int), .int .i64 (a9 : Int), .int .i64 (a10 : Int), .int .i64 (a11 : Int), .int .i64 (a12 : Int), .int .i64 (a13 : Int), .int .i64 (a14 : Int)]] W fun e w' => ∃ a cap, e = .returned (.slice a n cap) ∧ Ls w' a cap (l.take n) ∧ (0 < n → ∃ g, a = some ⟨g, 0, none⟩) ∧ Below W.heap.size W w' from fun W => by have := rused_ls n l HW.out W; rwa [hop] at this)
  have RF := Lib.hid (show ∀ W, Calls Try.prog 11 #[.agg #[.int .i64 (n : Int), .int .i64 (a0 : Int), .int .i64 (a1 : Int), .int .i64 (a2 : Int), .int .i64 (a3 : Int), .int .i64 (a4 : Int), .int .i64 (a5 : Int), .int .i64 (a6 : Int), .int .i64 (a7 : Int), .int .i64 (a8 : Int), .int .i64 (a9 : Int), .int .i64 (a10 : Int), .int .i64 (a11 : Int), .int .i64 (a12 : Int), .int .i64 (a13 : Int), .int .i64 (a14 : Int)]] W fun e w' => ∃ a cap, e = .returned (.slice a (15 - n) cap) ∧ Ls w' a cap (l.drop n) ∧ (0 < 15 - n → ∃ g, a = some ⟨g, 0, none⟩) ∧ Below W.heap.size W w' from fun W => by have := rfree_ls n l HW.out W; rwa [hop] at this)
  clear h0 h1 h2 h3 h4 h5 h6 h7 h8 h9 h10 h11 h12 h13 h14
  rw [hop] at HTH HONE HINF HS
  clear hop
  rw [HOP.out]
  go_wp2_with (refine wpList_store_mid rfl 27 (.tmp 9) (.tmp 17) rfl w1.heap.size 0 [.int .i64 (n : Int), .int .i64 (a0 : Int), .int .i64 (a1 : Int), .int .i64 (a2 : Int), .int .i64 (a3 : Int), .int .i64 (a4 : Int), .int .i64 (a5 : Int), .int .i64 (a6 : Int), .int .i64 (a7 : Int), .int .i64 (a8 : Int), .int .i64 (a9 : Int), .int .i64 (a10 : Int), .int .i64 (a11 : Int), .int .i64 (a12 : Int), .int .i64 (a13 : Int), .int .i64 (a14 : Int)].toArray rfl rfl HTH.out HINF.out HONE.out ?_; obtain ⟨W2, hW2, P2, B⟩ := HS.out; (first | rw [hW2] | (change wpList _ _ _ _ _ (World.setCells _ _ _ [.int .i64 (n : Int), .int .i64 (a0 : Int), .int .i64 (a1 : Int), .int .i64 (a2 : Int), .int .i64 (a3 : Int), .int .i64 (a4 : Int), .int .i64 (a5 : Int), .int .i64 (a6 : Int), .int .i64 (a7 : Int), .int .i64 (a8 : Int), .int .i64 (a9 : Int), .int .i64 (a10 : Int), .int .i64 (a11 : Int), .int .i64 (a12 : Int), .int .i64 (a13 : Int), .int .i64 (a14 : Int)]); rw [hW2])); clear hW2; have c0 := P2.c0; skip)
  clear HTH HONE HINF HS c0
  have HQ := Lib.hid (show ∀ W, KR w w1.heap.size n l W → W.cell? ⟨w1.heap.size, 0, none⟩ = some (.int .i64 (n : Int)) ∧ W.cell? ⟨w1.heap.size, 1, none⟩ = some (.int .i64 (a0 : Int)) ∧ W.cell? ⟨w1.heap.size, 2, none⟩ = some (.int .i64 (a1 : Int)) ∧ W.cell? ⟨w1.heap.size, 3, none⟩ = some (.int .i64 (a2 : Int)) ∧ W.cell? ⟨w1.heap.size, 4, none⟩ = some (.int .i64 (a3 : Int)) ∧ W.cell? ⟨w1.heap.size, 5, none⟩ = some (.int .i64 (a4 : Int)) ∧ W.cell? ⟨w1.heap.size, 6, none⟩ = some (.int .i64 (a5 : Int)) ∧ W.cell? ⟨w1.heap.size, 7, none⟩ = some (.int .i64 (a6 : Int)) ∧ W.cell? ⟨w1.heap.size, 8, none⟩ = some (.int .i64 (a7 : Int)) ∧ W.cell? ⟨w1.heap.size, 9, none⟩ = some (.int .i64 (a8 : Int)) ∧ W.cell? ⟨w1.heap.size, 10, none⟩ = some (.int .i64 (a9 : Int)) ∧ W.cell? ⟨w1.heap.size, 11, none⟩ = some (.int .i64 (a10 : Int)) ∧ W.cell? ⟨w1.heap.size, 12, none⟩ = some (.int .i64 (a11 : Int)) ∧ W.cell? ⟨w1.heap.size, 13, none⟩ = some (.int .i64 (a12 : Int)) ∧ W.cell? ⟨w1.heap.size, 14, none⟩ = some (.int .i64 (a13 : Int)) ∧ W.cell? ⟨w1.heap.size, 15, none⟩ = some (.int .i64 (a14 : Int)) ∧ KR w w1.heap.size n l W from fun W h => by
    have := HCC.out W h.pb
    exact ⟨this.1, this.2.1, this.2.2.1, this.2.2.2.1, this.2.2.2.2.1, this.2.2.2.2.2.1, this.2.2.2.2.2.2.1, this.2.2.2.2.2.2.2.1, this.2.2.2.2.2.2.2.2.1, this.2.2.2.2.2.2.2.2.2.1, this.2.2.2.2.2.2.2.2.2.2.1, this.2.2.2.2.2.2.2.2.2.2.2.1, this.2.2.2.2.2.2.2.2.2.2.2.2.1, this.2.2.2.2.2.2.2.2.2.2.2.2.2.1, this.2.2.2.2.2.2.2.2.2.2.2.2.2.2.1, this.2.2.2.2.2.2.2.2.2.2.2.2.2.2.2, h⟩)
  have KW : KR w w1.heap.size n l W2 := ⟨P2, B⟩
  clear P2 B
  go_region_held3 (fun W => W.cell? ⟨w1.heap.size, 0, none⟩ = some (.int .i64 (n : Int)) ∧ W.cell? ⟨w1.heap.size, 1, none⟩ = some (.int .i64 (a0 : Int)) ∧ W.cell? ⟨w1.heap.size, 2, none⟩ = some (.int .i64 (a1 : Int)) ∧ W.cell? ⟨w1.heap.size, 3, none⟩ = some (.int .i64 (a2 : Int)) ∧ W.cell? ⟨w1.heap.size, 4, none⟩ = some (.int .i64 (a3 : Int)) ∧ W.cell? ⟨w1.heap.size, 5, none⟩ = some (.int .i64 (a4 : Int)) ∧ W.cell? ⟨w1.heap.size, 6, none⟩ = some (.int .i64 (a5 : Int)) ∧ W.cell? ⟨w1.heap.size, 7, none⟩ = some (.int .i64 (a6 : Int)) ∧ W.cell? ⟨w1.heap.size, 8, none⟩ = some (.int .i64 (a7 : Int)) ∧ W.cell? ⟨w1.heap.size, 9, none⟩ = some (.int .i64 (a8 : Int)) ∧ W.cell? ⟨w1.heap.size, 10, none⟩ = some (.int .i64 (a9 : Int)) ∧ W.cell? ⟨w1.heap.size, 11, none⟩ = some (.int .i64 (a10 : Int)) ∧ W.cell? ⟨w1.heap.size, 12, none⟩ = some (.int .i64 (a11 : Int)) ∧ W.cell? ⟨w1.heap.size, 13, none⟩ = some (.int .i64 (a12 : Int)) ∧ W.cell? ⟨w1.heap.size, 14, none⟩ = some (.int .i64 (a13 : Int)) ∧ W.cell? ⟨w1.heap.size, 15, none⟩ = some (.int .i64 (a14 : Int)) ∧ KR w w1.heap.size n l W)
    (first | (exact HQ.out _ KW.drew) | (go_split_ands; exact HQ.out _ (KR.next ‹_› BU)) | (go_split_ands; exact HQ.out _ (KR.next ‹_› BF)) | (go_split_ands; exact HQ.out _ ‹_›))
    (first | (go_at_call 10; refine (RU.out _).mono ?_; rintro e WU ⟨aU, cU, rfl, rU, sU, BU⟩) | (go_at_call 11; refine (RF.out _).mono ?_; rintro e WF ⟨aF, cF, rfl, rF, sF, BF⟩))
  have hk : KR w w1.heap.size n l WF := by go_split_ands; assumption
  have B := hk.below
  replace rU := rU.below BF
  clear hk BF BU HQ HCC RU RF KW
  obtain ⟨nf, hnf⟩ : ∃ nf, 15 - n = nf := ⟨_, rfl⟩
  have hnf1 : n + nf = 15 := by omega
  rw [hnf] at hfl0 sF ⊢
  have hfl := Lib.hid hfl0
  have HNF := Lib.hid hnf1
  have hnf0 : (0 : Int) < (nf : Int) := by omega
  have hnf15 : (nf : Int) ≤ 15 := by omega
  have hnf2 : 0 < nf := by omega
  clear hnf hnf1 hfl0
  obtain ⟨gF, rfl⟩ := sF (by omega)
  obtain ⟨x, hx⟩ : ∃ x, l.getD n 0 = x := ⟨_, rfl⟩
  have cF0 : WF.cell? ⟨gF, 0, none⟩ = some (.int .i64 (x : Int)) := by
    obtain ⟨b, off, e, hc⟩ := rF.rd 0 (by rw [ints_length, hfl.out]; omega)
    cases e
    rw [ints_get _ 0 (by rw [hfl.out]; omega)] at hc
    have e : (l.drop n).getD 0 0 = x := by rw [← hx]; simp [List.getD, List.getElem?_drop]
    rw [e] at hc
    exact hc
  obtain ⟨p1, c1, s1, l1⟩ := rU.hi n k hul.out hK.out
  obtain ⟨p2, c2, s2, l2⟩ := rU.lo n k hul.out hK.out
  obtain ⟨p3, c3, s3, l3⟩ := rF.lo nf 1 hfl.out (by omega)
  have S3 := Lib.hid s3
  have HX := Lib.hid hx
  have hl1 := Lib.hid (show ((l.take n).take k).length = k by rw [List.length_take, hul.out]; have := hK.out; omega)
  have hl2 := Lib.hid (show ((l.take n).drop k).length = n - k by rw [List.length_drop, hul.out])
  have hl3 := Lib.hid (show ((l.drop n).drop 1).length = nf - 1 by rw [List.length_drop, hfl.out])
  have hla := Lib.hid (show ((l.take n).take k ++ [x] ++ (l.take n).drop k).length = n + 1 by rw [List.length_append, List.length_append, hl1.out, hl2.out, List.length_singleton]; have := hK.out; omega)
  have hx1 := Lib.hid (show ([x] : List Nat).length = 1 from rfl)
  have hm := mvd_wrd HW.out n k hn15 (by have := hK.out; omega)
  have hW2 := Lib.hid (wrd_mk hm (show n + 1 < 16 by omega))
  have HL0 := ins_list hlen hn15 hK.out
  rw [HX.out] at HL0
  have HL := Lib.hid HL0
  clear hx sU sF s3 hm HL0
  have HQ := Lib.hid (show ∀ W, Below WF.heap.size WF W → W.cell? ⟨gF, 0, none⟩ = some (.int .i64 (x : Int)) ∧ Below WF.heap.size WF W from fun W b => ⟨(b.cell (p := ⟨gF, 0, none⟩) (World.block_lt_of_cell? WF _ cF0)).trans cF0, b⟩)
  clear cF0
  go_wp2_with fail
  go_region_held3 (fun W => W.cell? ⟨gF, 0, none⟩ = some (.int .i64 (x : Int)) ∧ Below WF.heap.size WF W)
    (first | (exact HQ.out _ b3) | (exact HQ.out _ b2) | (exact HQ.out _ (b1.alloc b1.size _)) | (exact HQ.out _ b1) | (exact HQ.out _ (Below.refl _ _).drew) | (exact HQ.out _ (((Below.refl _ _).alloc (Nat.le_refl _) _).drew)))
    (first | (refine step_append_rd rfl (.const (.slice none 0 0)) (.tmp 49) rfl WF.heap.size WF (by go_split_ands; assumption) (.slice none 0 0) 0 [] rfl (World.ownsRow_nil _ _ 3 1) p1 c1 k ((l.take n).take k) hl1.out rfl (l1.rd.below (by go_split_ands; assumption)) l1.nl (by omega) (Below.size (by go_split_ands; assumption)) ?_; intro v1 w3 own1 b1 g1) | (refine step_append_rd rfl (.tmp 50) (.tmp 54) rfl WF.heap.size WF (by go_split_ands; assumption) v1 _ _ rfl (own1.alloc _) _ 1 1 [x] hx1.out rfl (rd_new _ _ _ _ _ rfl) (by intro h; cases h) (by omega) (Below.size (by go_split_ands; assumption)) ?_; intro v2 w4 own2 b2 g2; clear g2) | (refine step_append_rd rfl (.tmp 50) (.tmp 54) rfl WF.heap.size WF (by go_split_ands; assumption) v1 _ _ rfl own1 (some ⟨WF.heap.size, 0, none⟩) 1 1 [x] hx1.out rfl (Rd.below (show Rd ((WF.alloc (.cells #[.int .i64 (x : Int)] 3)).drew) _ _ from rd_new _ _ _ _ _ rfl) ((Below.refl _ _).grown g1 (Nat.le_refl _) (fun j hj => by cases hj))) (by intro h; cases h) (by omega) (Below.size (by go_split_ands; assumption)) ?_; intro v2 w4 own2 b2 g2; clear g2) | (refine step_append_rd rfl (.tmp 55) (.tmp 58) rfl WF.heap.size WF b2 v2 _ _ rfl own2 p2 c2 (n - k) ((l.take n).drop k) hl2.out rfl (l2.rd.below b2) l2.nl (by omega) b2.size ?_; intro v3 w5 own3 b3 g3; clear g3))
  all_goals
    rw [List.nil_append, ← iv_append, ← iv_append] at own3
    have hn1 : 0 + k + 1 + (n - k) = n + 1 := by have := hK.out; omega
    rw [hn1] at own3
    obtain ⟨a3, c3', rfl, l4, _⟩ := own_ls own3 hla.out
    have cF1 := (HQ.out _ b3).1
    have B5 := step_below B b3
    have L3 := Lib.hid (l3.below b3)
    have HQ5 := Lib.hid (show ∀ W, Below w5.heap.size w5 W → W.cell? ⟨gF, 0, none⟩ = some (.int .i64 (x : Int)) ∧ Below w5.heap.size w5 W from fun W b => ⟨(b.cell (p := ⟨gF, 0, none⟩) (World.block_lt_of_cell? w5 _ cF1)).trans cF1, b⟩)
    have s3 : ∀ W', (Instr.slice 23 (.slice (some ⟨gF, 0, none⟩) nf cF) (some (.int .i64 1)) none none).run Try.prog W' = .ok (.slice p3 (nf - 1) c3) W' := S3.out
    clear own3 own2 own1 b1 b2 b3 g1 cF1 l1 l2 l3 s1 s2 rU B hn1
    go_wp2_with fail
    go_region_held3 (fun W => W.cell? ⟨gF, 0, none⟩ = some (.int .i64 (x : Int)) ∧ Below w5.heap.size w5 W)
      (first | (exact HQ5.out _ (Below.refl _ _).drew) | (exact HQ5.out _ ((Below.refl _ _).drew.trans Bm)))
      (first | (go_at_call 32; refine (made_at _ _ _ HL.out (n + 1) (nf - 1) hla.out hl3.out hW2.out a3 p3 c3' c3 _ l4.drew L3.out.drew).mono ?_; rintro e wm ⟨rfl, Bm⟩))
    have Bm' : Below w5.heap.size w5 wm := by go_split_ands; assumption
    go_wp2_with fail
    go_ret3
    exact ⟨by rw [HX.out]; rfl, step_below B5 Bm'⟩
end Go.Proofs.Ytochdmdojcfceaa
