/- The reference's Cut, where it cuts. -/
import Derived.Test.YtochdmdojcfceaaRefH
namespace Go.Proofs.Ytochdmdojcfceaa
open Go.ChangeShapes Go.WideShapes Go.ChangeAt Go.RowKit Go.Shelf
open PM
set_option linter.unusedVariables false
set_option linter.unusedSimpArgs false

set_option maxRecDepth 100000 in
set_option maxHeartbeats 4000000 in
theorem rcut_ok (n k : Nat) (l : List Nat) (h : Wrd n l) (ho : okB l = true) (hk : k ≤ n) (hn : n ≤ 15) (w : World) :
    Calls Try.prog 30 #[.int .u64 ((enc (n :: l) : Nat) : Int), .int .i64 (k : Int)] w fun e w' => ∃ a cap, e = .returned (.tuple #[.int .u64 ((enc (k :: l) : Nat) : Int), .slice a (n - k) cap, .int .i64 0]) ∧ Rd w' a (ints ((l.take n).drop k)) ∧ Below w.heap.size w w' := by
  have HW := Lib.hid h
  have HO := Lib.hid ho
  have hrdv : rdV n l = pvl n l := by rw [rdV, if_pos ho]
  have hlen := h.len
  have h16 := h.n16
  have HRD := Lib.hid hrdv
  clear h ho hrdv
  have q1 : ¬ (k : Int) < 0 := by omega
  have q2 : ¬ (n : Int) < k := by omega
  have hK := Lib.hid hk
  have hul := Lib.hid (show (l.take n).length = n by rw [List.length_take]; omega)
  have hfl := Lib.hid (show (l.drop n).length = 15 - n by rw [List.length_drop]; omega)
  clear hk
  go_enter Try.func30, Try.ntmps30
  go_wp2_with fail
  refine (read_law n l HW.out w).mono ?_; rintro e w1 ⟨rfl, B⟩
  rw [HRD.out, HO.out]
  have P1 := pb_new w1 0
  simp only [Int.ofNat_zero, Int.natCast_zero] at P1
  have HTH := Lib.hid (P1.there (pvl n l).toArray (pvl_size _ _))
  have HONE := Lib.hid (all_oneCell_toArray (pvl_one n l))
  have HINF := Lib.hid (info27a n l)
  have HS := Lib.hid (show ∃ W2, World.setCells (w1.alloc (.cells #[.int .i64 0, .int .i64 0, .int .i64 0, .int .i64 0, .int .i64 0, .int .i64 0, .int .i64 0, .int .i64 0, .int .i64 0, .int .i64 0, .int .i64 0, .int .i64 0, .int .i64 0, .int .i64 0, .int .i64 0, .int .i64 0] 27)) w1.heap.size 0 (pvl n l) = W2 ∧ PB W2 w1.heap.size n l ∧ Below w.heap.size w W2 from ⟨_, rfl, P1.stored n l, below_setCells _ B.size _ _ _ (B.alloc B.size _)⟩)
  clear P1 B
  obtain ⟨a0, h0⟩ : ∃ a, l.getD 0 0 = a := ⟨_, rfl⟩
  obtain ⟨a1, h1⟩ : ∃ a, l.getD 1 0 = a := ⟨_, rfl⟩
  obtain ⟨a2, h2⟩ : ∃ a, l.getD 2 0 = a := ⟨_, rfl⟩
  obtain ⟨a3, h3⟩ : ∃ a, l.getD 3 0 = a := ⟨_, rfl⟩
  obtain ⟨a4, h4⟩ : ∃ a, l.getD 4 0 = a := ⟨_, rfl⟩
  obtain ⟨a5, h5⟩ : ∃ a, l.getD 5 0 = a := ⟨_, rfl⟩
  obtain ⟨a6, h6⟩ : ∃ a, l.getD 6 0 = a := ⟨_, rfl⟩
  obtain ⟨a7, h7⟩ : ∃ a, l.getD 7 0 = a := ⟨_, rfl⟩
  obtain ⟨a8, h8⟩ : ∃ a, l.getD 8 0 = a := ⟨_, rfl⟩
  obtain ⟨a9, h9⟩ : ∃ a, l.getD 9 0 = a := ⟨_, rfl⟩
  obtain ⟨a10, h10⟩ : ∃ a, l.getD 10 0 = a := ⟨_, rfl⟩
  obtain ⟨a11, h11⟩ : ∃ a, l.getD 11 0 = a := ⟨_, rfl⟩
  obtain ⟨a12, h12⟩ : ∃ a, l.getD 12 0 = a := ⟨_, rfl⟩
  obtain ⟨a13, h13⟩ : ∃ a, l.getD 13 0 = a := ⟨_, rfl⟩
  obtain ⟨a14, h14⟩ : ∃ a, l.getD 14 0 = a := ⟨_, rfl⟩
  have hop := pvl_open n l a0 a1 a2 a3 a4 a5 a6 a7 a8 a9 a10 a11 a12 a13 a14 h0 h1 h2 h3 h4 h5 h6 h7 h8 h9 h10 h11 h12 h13 h14
  have HOP := Lib.hid hop
  have HCC := Lib.hid (show ∀ W, PB W w1.heap.size n l → W.cell? ⟨w1.heap.size, 0, none⟩ = some (.int .i64 (n : Int)) ∧ W.cell? ⟨w1.heap.size, 1, none⟩ = some (.int .i64 (a0 : Int)) ∧ W.cell? ⟨w1.heap.size, 2, none⟩ = some (.int .i64 (a1 : Int)) ∧ W.cell? ⟨w1.heap.size, 3, none⟩ = some (.int .i64 (a2 : Int)) ∧ W.cell? ⟨w1.heap.size, 4, none⟩ = some (.int .i64 (a3 : Int)) ∧ W.cell? ⟨w1.heap.size, 5, none⟩ = some (.int .i64 (a4 : Int)) ∧ W.cell? ⟨w1.heap.size, 6, none⟩ = some (.int .i64 (a5 : Int)) ∧ W.cell? ⟨w1.heap.size, 7, none⟩ = some (.int .i64 (a6 : Int)) ∧ W.cell? ⟨w1.heap.size, 8, none⟩ = some (.int .i64 (a7 : Int)) ∧ W.cell? ⟨w1.heap.size, 9, none⟩ = some (.int .i64 (a8 : Int)) ∧ W.cell? ⟨w1.heap.size, 10, none⟩ = some (.int .i64 (a9 : Int)) ∧ W.cell? ⟨w1.heap.size, 11, none⟩ = some (.int .i64 (a10 : Int)) ∧ W.cell? ⟨w1.heap.size, 12, none⟩ = some (.int .i64 (a11 : Int)) ∧ W.cell? ⟨w1.heap.size, 13, none⟩ = some (.int .i64 (a12 : Int)) ∧ W.cell? ⟨w1.heap.size, 14, none⟩ = some (.int .i64 (a13 : Int)) ∧ W.cell? ⟨w1.heap.size, 15, none⟩ = some (.int .i64 (a14 : Int)) from fun W hP => ⟨hP.c0, by rw [← h0]; exact hP.cell 0 (by omega), by rw [← h1]; exact hP.cell 1 (by omega), by rw [← h2]; exact hP.cell 2 (by omega), by rw [← h3]; exact hP.cell 3 (by omega), by rw [← h4]; exact hP.cell 4 (by omega), by rw [← h5]; exact hP.cell 5 (by omega), by rw [← h6]; exact hP.cell 6 (by omega), by rw [← h7]; exact hP.cell 7 (by omega), by rw [← h8]; exact hP.cell 8 (by omega), by rw [← h9]; exact hP.cell 9 (by omega), by rw [← h10]; exact hP.cell 10 (by omega), by rw [← h11]; exact hP.cell 11 (by omega), by rw [← h12]; exact hP.cell 12 (by omega), by rw [← h13]; exact hP.cell 13 (by omega), by rw [← h14]; exact hP.cell 14 (by omega)⟩)
  have RU := Lib.hid (show ∀ W, Calls Try.prog 10 #[.agg #[.int .i64 (n : Int), .int .i64 (a0 : Int), .int .i64 (a1 : Int), .int .i64 (a2 : Int), .int .i64 (a3 : Int), .int .i64 (a4 : Int), .int .i64 (a5 : Int), .int .i64 (a6 : Int), .int .i64 (a7 : Int), .int .i64 (a8 : Int), .int .i64 (a9 : Int), .int .i64 (a10 : Int), .int .i64 (a11 : Int), .int .i64 (a12 : Int), .int .i64 (a13 : Int), .int .i64 (a14 : Int)]] W fun e w' => ∃ a cap, e = .returned (.slice a n cap) ∧ Ls w' a cap (l.take n) ∧ (0 < n → ∃ g, a = some ⟨g, 0, none⟩) ∧ Below W.heap.size W w' from fun W => by have := rused_ls n l HW.out W; rwa [hop] at this)
  have RF := Lib.hid (show ∀ W, Calls Try.prog 11 #[.agg #[.int .i64 (n : Int), .int .i64 (a0 : Int), .int .i64 (a1 : Int), .int .i64 (a2 : Int), .int .i64 (a3 : Int), .int .i64 (a4 : Int), .int .i64 (a5 : Int), .int .i64 (a6 : Int), .int .i64 (a7 : Int), .int .i64 (a8 : Int), .int .i64 (a9 : Int), .int .i64 (a10 : Int), .int .i64 (a11 : Int), .int .i64 (a12 : Int), .int .i64 (a13 : Int), .int .i64 (a14 : Int)]] W fun e w' => ∃ a cap, e = .returned (.slice a (15 - n) cap) ∧ Ls w' a cap (l.drop n) ∧ (0 < 15 - n → ∃ g, a = some ⟨g, 0, none⟩) ∧ Below W.heap.size W w' from fun W => by have := rfree_ls n l HW.out W; rwa [hop] at this)
  clear h0 h1 h2 h3 h4 h5 h6 h7 h8 h9 h10 h11 h12 h13 h14
  rw [hop] at HTH HONE HINF HS
  clear hop
  rw [HOP.out]
  go_wp2_with (refine wpList_store_mid rfl 27 (.tmp 7) (.tmp 14) rfl w1.heap.size 0 [.int .i64 (n : Int), .int .i64 (a0 : Int), .int .i64 (a1 : Int), .int .i64 (a2 : Int), .int .i64 (a3 : Int), .int .i64 (a4 : Int), .int .i64 (a5 : Int), .int .i64 (a6 : Int), .int .i64 (a7 : Int), .int .i64 (a8 : Int), .int .i64 (a9 : Int), .int .i64 (a10 : Int), .int .i64 (a11 : Int), .int .i64 (a12 : Int), .int .i64 (a13 : Int), .int .i64 (a14 : Int)].toArray rfl rfl HTH.out HINF.out HONE.out ?_; obtain ⟨W2, hW2, P2, B⟩ := HS.out; (first | rw [hW2] | (change wpList _ _ _ _ _ (World.setCells _ _ _ [.int .i64 (n : Int), .int .i64 (a0 : Int), .int .i64 (a1 : Int), .int .i64 (a2 : Int), .int .i64 (a3 : Int), .int .i64 (a4 : Int), .int .i64 (a5 : Int), .int .i64 (a6 : Int), .int .i64 (a7 : Int), .int .i64 (a8 : Int), .int .i64 (a9 : Int), .int .i64 (a10 : Int), .int .i64 (a11 : Int), .int .i64 (a12 : Int), .int .i64 (a13 : Int), .int .i64 (a14 : Int)]); rw [hW2])); clear hW2; have c0 := P2.c0; skip)
  clear HTH HONE HINF HS c0
  have HQ := Lib.hid (show ∀ W, KR w w1.heap.size n l W → W.cell? ⟨w1.heap.size, 0, none⟩ = some (.int .i64 (n : Int)) ∧ W.cell? ⟨w1.heap.size, 1, none⟩ = some (.int .i64 (a0 : Int)) ∧ W.cell? ⟨w1.heap.size, 2, none⟩ = some (.int .i64 (a1 : Int)) ∧ W.cell? ⟨w1.heap.size, 3, none⟩ = some (.int .i64 (a2 : Int)) ∧ W.cell? ⟨w1.heap.size, 4, none⟩ = some (.int .i64 (a3 : Int)) ∧ W.cell? ⟨w1.heap.size, 5, none⟩ = some (.int .i64 (a4 : Int)) ∧ W.cell? ⟨w1.heap.size, 6, none⟩ = some (.int .i64 (a5 : Int)) ∧ W.cell? ⟨w1.heap.size, 7, none⟩ = some (.int .i64 (a6 : Int)) ∧ W.cell? ⟨w1.heap.size, 8, none⟩ = some (.int .i64 (a7 : Int)) ∧ W.cell? ⟨w1.heap.size, 9, none⟩ = some (.int .i64 (a8 : Int)) ∧ W.cell? ⟨w1.heap.size, 10, none⟩ = some (.int .i64 (a9 : Int)) ∧ W.cell? ⟨w1.heap.size, 11, none⟩ = some (.int .i64 (a10 : Int)) ∧ W.cell? ⟨w1.heap.size, 12, none⟩ = some (.int .i64 (a11 : Int)) ∧ W.cell? ⟨w1.heap.size, 13, none⟩ = some (.int .i64 (a12 : Int)) ∧ W.cell? ⟨w1.heap.size, 14, none⟩ = some (.int .i64 (a13 : Int)) ∧ W.cell? ⟨w1.heap.size, 15, none⟩ = some (.int .i64 (a14 : Int)) ∧ KR w w1.heap.size n l W from fun W h => by
    have := HCC.out W h.pb
    exact ⟨this.1, this.2.1, this.2.2.1, this.2.2.2.1, this.2.2.2.2.1, this.2.2.2.2.2.1, this.2.2.2.2.2.2.1, this.2.2.2.2.2.2.2.1, this.2.2.2.2.2.2.2.2.1, this.2.2.2.2.2.2.2.2.2.1, this.2.2.2.2.2.2.2.2.2.2.1, this.2.2.2.2.2.2.2.2.2.2.2.1, this.2.2.2.2.2.2.2.2.2.2.2.2.1, this.2.2.2.2.2.2.2.2.2.2.2.2.2.1, this.2.2.2.2.2.2.2.2.2.2.2.2.2.2.1, this.2.2.2.2.2.2.2.2.2.2.2.2.2.2.2, h⟩)
  have KW : KR w w1.heap.size n l W2 := ⟨P2, B⟩
  clear P2 B
  go_region_held3 (fun W => W.cell? ⟨w1.heap.size, 0, none⟩ = some (.int .i64 (n : Int)) ∧ W.cell? ⟨w1.heap.size, 1, none⟩ = some (.int .i64 (a0 : Int)) ∧ W.cell? ⟨w1.heap.size, 2, none⟩ = some (.int .i64 (a1 : Int)) ∧ W.cell? ⟨w1.heap.size, 3, none⟩ = some (.int .i64 (a2 : Int)) ∧ W.cell? ⟨w1.heap.size, 4, none⟩ = some (.int .i64 (a3 : Int)) ∧ W.cell? ⟨w1.heap.size, 5, none⟩ = some (.int .i64 (a4 : Int)) ∧ W.cell? ⟨w1.heap.size, 6, none⟩ = some (.int .i64 (a5 : Int)) ∧ W.cell? ⟨w1.heap.size, 7, none⟩ = some (.int .i64 (a6 : Int)) ∧ W.cell? ⟨w1.heap.size, 8, none⟩ = some (.int .i64 (a7 : Int)) ∧ W.cell? ⟨w1.heap.size, 9, none⟩ = some (.int .i64 (a8 : Int)) ∧ W.cell? ⟨w1.heap.size, 10, none⟩ = some (.int .i64 (a9 : Int)) ∧ W.cell? ⟨w1.heap.size, 11, none⟩ = some (.int .i64 (a10 : Int)) ∧ W.cell? ⟨w1.heap.size, 12, none⟩ = some (.int .i64 (a11 : Int)) ∧ W.cell? ⟨w1.heap.size, 13, none⟩ = some (.int .i64 (a12 : Int)) ∧ W.cell? ⟨w1.heap.size, 14, none⟩ = some (.int .i64 (a13 : Int)) ∧ W.cell? ⟨w1.heap.size, 15, none⟩ = some (.int .i64 (a14 : Int)) ∧ KR w w1.heap.size n l W)
    (first | (exact HQ.out _ KW.drew) | (go_split_ands; exact HQ.out _ (KR.next ‹_› BU)) | (go_split_ands; exact HQ.out _ (KR.next ‹_› BF)) | (go_split_ands; exact HQ.out _ ‹_›))
    (first | (go_at_call 10; refine (RU.out _).mono ?_; rintro e WU ⟨aU, cU, rfl, rU, sU, BU⟩) | (go_at_call 11; refine (RF.out _).mono ?_; rintro e WF ⟨aF, cF, rfl, rF, sF, BF⟩))
  have hk : KR w w1.heap.size n l WF := by go_split_ands; assumption
  have B := hk.below
  replace rU := rU.below BF
  clear hk BF BU HQ HCC RU RF KW
  obtain ⟨p1, c1, s1, l1⟩ := rU.hi n k hul.out hK.out
  obtain ⟨p2, c2, s2, l2⟩ := rU.lo n k hul.out hK.out
  have hl1 := Lib.hid (show ((l.take n).take k).length = k by rw [List.length_take, hul.out]; have := hK.out; omega)
  have hl2 := Lib.hid (show ((l.take n).drop k).length = n - k by rw [List.length_drop, hul.out])
  have hlb := Lib.hid (show ((l.take n).drop k ++ l.drop n).length = n - k + (15 - n) by rw [List.length_append, hfl.out, hl2.out])
  have HL := Lib.hid (show (l.take n).take k ++ ((l.take n).drop k ++ l.drop n) = l by rw [← List.append_assoc, List.take_append_drop, List.take_append_drop])
  have hW2 := Lib.hid (wrd_mk HW.out (show k < 16 by have := hK.out; omega))
  clear sU sF
  have KB : Below WF.heap.size WF WF.drew := (Below.refl _ _).drew
  go_wp2_with fail
  go_region_held3 (fun W => WF.heap.size ≤ W.heap.size ∧ Below WF.heap.size WF W)
    (first | (exact ⟨KB.size, KB⟩) | (exact ⟨b1.size, b1⟩) | (exact ⟨b2.size, b2⟩) | (exact ⟨(step_below b2 Bm).size, step_below b2 Bm⟩))
    (first | (refine step_append_rd rfl (.const (.slice none 0 0)) (.tmp 37) rfl WF.heap.size WF KB (.slice none 0 0) 0 [] rfl (World.ownsRow_nil _ _ 3 1) p2 c2 (n - k) ((l.take n).drop k) hl2.out rfl (l2.rd.below KB) l2.nl (by omega) KB.size ?_; intro v1 w3 own1 b1 g1; clear g1) | (refine step_append_rd rfl (.tmp 38) (.tmp 39) rfl WF.heap.size WF b1 v1 _ _ rfl own1 aF cF (15 - n) (l.drop n) hfl.out rfl (rF.rd.below b1) rF.nl (by omega) b1.size ?_; intro v2 w4 own2 b2 g2; clear g2; rw [Nat.zero_add, List.nil_append, ← iv_append] at own2; obtain ⟨a5, c5, rfl, l5, _⟩ := own_ls own2 hlb.out) | (go_at_call 32; refine (made_at _ _ _ HL.out k (n - k + (15 - n)) hl1.out hlb.out hW2.out p1 a5 c1 c5 _ (l1.below b2) l5).mono ?_; rintro e wm ⟨rfl, Bm⟩))
  have b2m := step_below b2 Bm
  clear own1 own2 b1
  go_wp2_with fail
  go_ret3
  exact ⟨p2, c2, rfl, l2.rd.below b2m, step_below B b2m⟩
end Go.Proofs.Ytochdmdojcfceaa
