/- The reference's Remove, where it takes out. -/
import Derived.Test.YtochdmdojcfceaaRefH
namespace Go.Proofs.Ytochdmdojcfceaa
open Go.ChangeShapes Go.WideShapes Go.ChangeAt Go.RowKit Go.Shelf
open PM
set_option linter.unusedVariables false
set_option linter.unusedSimpArgs false

set_option maxRecDepth 100000 in
set_option maxHeartbeats 4000000 in
theorem rrem_ok (n k : Nat) (l : List Nat) (h : Wrd n l) (ho : okB l = true) (hk : k < n) (w : World) :
    Calls Try.prog 28 #[.int .u64 ((enc (n :: l) : Nat) : Int), .int .i64 (k : Int)] w fun e w' => e = .returned (.tuple #[.int .u64 ((enc ((n - 1) :: mvd l k (n - 1)) : Nat) : Int), .int .i64 ((l.getD k 0 : Nat) : Int), .int .i64 0]) ∧ Below w.heap.size w w' := by
  have HW := Lib.hid h
  have HO := Lib.hid ho
  have hrdv : rdV n l = pvl n l := by rw [rdV, if_pos ho]
  have hlen := h.len
  have h16 := h.n16
  have HRD := Lib.hid hrdv
  clear h ho hrdv
  have q1 : ¬ (k : Int) < 0 := by omega
  have q2 : ¬ (n : Int) ≤ k := by omega
  have q3 : (k : Int) < n := by omega
  have q4 : (k : Int) ≤ 14 := by omega
  have hK := Lib.hid hk
  have hul := Lib.hid (show (l.take n).length = n by rw [List.length_take]; omega)
  have hfl := Lib.hid (show (l.drop n).length = 15 - n by rw [List.length_drop]; omega)
  clear hk
  go_enter Try.func28, Try.ntmps28
  go_wp2_with fail
  refine (read_law n l HW.out w).mono ?_; rintro e w1 ⟨rfl, B⟩
  rw [HRD.out, HO.out]
  have P1 := pb_new w1 0
  simp only [Int.ofNat_zero, Int.natCast_zero] at P1
  have HTH := Lib.hid (P1.there (pvl n l).toArray (pvl_size _ _))
  have HONE := Lib.hid (all_oneCell_toArray (pvl_one n l))
  have HINF := Lib.hid (info27a n l)
  have HS := Lib.hid (show ∃ W2, World.setCells (w1.alloc (.cells #[.int .i64 0, .int .i64 0, .int .i64 0, .int .i64 0, .int .i64 0, .int .i64 0, .int .i64 0, .int .i64 0, .int .i64 0, .int .i64 0, .int .i64 0, .int .i64 0, .int .i64 0, .int .i64 0, .int .i64 0, .int .i64 0] 27)) w1.heap.size 0 (pvl n l) = W2 ∧ PB W2 w1.heap.size n l ∧ Below w.heap.size w W2 from ⟨_, rfl, P1.stored n l, below_setCells _ B.size _ _ _ (B.alloc B.size _)⟩)
  clear P1 B
  obtain ⟨a0, h0⟩ : ∃ a, l.getD 0 0 = a := ⟨_, rfl⟩
  obtain ⟨a1, h1⟩ : ∃ a, l.getD 1 0 = a := ⟨_, rfl⟩
  obtain ⟨a2, h2⟩ : ∃ a, l.getD 2 0 = a := ⟨_, rfl⟩
  obtain ⟨a3, h3⟩ : ∃ a, l.getD 3 0 = a := ⟨_, rfl⟩
  obtain ⟨a4, h4⟩ : ∃ a, l.getD 4 0 = a := ⟨_, rfl⟩
  obtain ⟨a5, h5⟩ : ∃ a, l.getD 5 0 = a := ⟨_, rfl⟩
  obtain ⟨a6, h6⟩ : ∃ a, l.getD 6 0 = a := ⟨_, rfl⟩
  obtain ⟨a7, h7⟩ : ∃ a, l.getD 7 0 = a := ⟨_, rfl⟩
  obtain ⟨a8, h8⟩ : ∃ a, l.getD 8 0 = a := ⟨_, rfl⟩
  obtain ⟨a9, h9⟩ : ∃ a, l.getD 9 0 = a := ⟨_, rfl⟩
  obtain ⟨a10, h10⟩ : ∃ a, l.getD 10 0 = a := ⟨_, rfl⟩
  obtain ⟨a11, h11⟩ : ∃ a, l.getD 11 0 = a := ⟨_, rfl⟩
  obtain ⟨a12, h12⟩ : ∃ a, l.getD 12 0 = a := ⟨_, rfl⟩
  obtain ⟨a13, h13⟩ : ∃ a, l.getD 13 0 = a := ⟨_, rfl⟩
  obtain ⟨a14, h14⟩ : ∃ a, l.getD 14 0 = a := ⟨_, rfl⟩
  have hop := pvl_open n l a0 a1 a2 a3 a4 a5 a6 a7 a8 a9 a10 a11 a12 a13 a14 h0 h1 h2 h3 h4 h5 h6 h7 h8 h9 h10 h11 h12 h13 h14
  have HOP := Lib.hid hop
  have HCC := Lib.hid (show ∀ W, PB W w1.heap.size n l → W.cell? ⟨w1.heap.size, 0, none⟩ = some (.int .i64 (n : Int)) ∧ W.cell? ⟨w1.heap.size, 1, none⟩ = some (.int .i64 (a0 : Int)) ∧ W.cell? ⟨w1.heap.size, 2, none⟩ = some (.int .i64 (a1 : Int)) ∧ W.cell? ⟨w1.heap.size, 3, none⟩ = some (.int .i64 (a2 : Int)) ∧ W.cell? ⟨w1.heap.size, 4, none⟩ = some (.int .i64 (a3 : Int)) ∧ W.cell? ⟨w1.heap.size, 5, none⟩ = some (.int .i64 (a4 : Int)) ∧ W.cell? ⟨w1.heap.size, 6, none⟩ = some (.int .i64 (a5 : Int)) ∧ W.cell? ⟨w1.heap.size, 7, none⟩ = some (.int .i64 (a6 : Int)) ∧ W.cell? ⟨w1.heap.size, 8, none⟩ = some (.int .i64 (a7 : Int)) ∧ W.cell? ⟨w1.heap.size, 9, none⟩ = some (.int .i64 (a8 : Int)) ∧ W.cell? ⟨w1.heap.size, 10, none⟩ = some (.int .i64 (a9 : Int)) ∧ W.cell? ⟨w1.heap.size, 11, none⟩ = some (.int .i64 (a10 : Int)) ∧ W.cell? ⟨w1.heap.size, 12, none⟩ = some (.int .i64 (a11 : Int)) ∧ W.cell? ⟨w1.heap.size, 13, none⟩ = some (.int .i64 (a12 : Int)) ∧ W.cell? ⟨w1.heap.size, 14, none⟩ = some (.int .i64 (a13 : Int)) ∧ W.cell? ⟨w1.heap.size, 15, none⟩ = some (.int .i64 (a14 : Int)) from fun W hP => ⟨hP.c0, by rw [← h0]; exact hP.cell 0 (by omega), by rw [← h1]; exact hP.cell 1 (by omega), by rw [← h2]; exact hP.cell 2 (by omega), by rw [← h3]; exact hP.cell 3 (by omega), by rw [← h4]; exact hP.cell 4 (by omega), by rw [← h5]; exact hP.cell 5 (by omega), by rw [← h6]; exact hP.cell 6 (by omega), by rw [← h7]; exact hP.cell 7 (by omega), by rw [← h8]; exact hP.cell 8 (by omega), by rw [← h9]; exact hP.cell 9 (by omega), by rw [← h10]; exact hP.cell 10 (by omega), by rw [← h11]; exact hP.cell 11 (by omega), by rw [← h12]; exact hP.cell 12 (by omega), by rw [← h13]; exact hP.cell 13 (by omega), by rw [← h14]; exact hP.cell 14 (by omega)⟩)
  have RU := Lib.hid (show ∀ W, Calls Try.prog 10 #[.agg #[.int .i64 (n : Int), .int .i64 (a0 : Int), .int .i64 (a1 : Int), .int .i64 (a2 : Int), .int .i64 (a3 : Int), .int .i64 (a4 : Int), .int .i64 (a5 : Int), .int .i64 (a6 : Int), .int .i64 (a7 : Int), .int .i64 (a8 : Int), .int .i64 (a9 : Int), .int .i64 (a10 : Int), .int .i64 (a11 : Int), .int .i64 (a12 : Int), .int .i64 (a13 : Int), .int .i64 (a14 : Int)]] W fun e w' => ∃ a cap, e = .returned (.slice a n cap) ∧ Ls w' a cap (l.take n) ∧ (0 < n → ∃ g, a = some ⟨g, 0, none⟩) ∧ Below W.heap.size W w' from fun W => by have := rused_ls n l HW.out W; rwa [hop] at this)
  have RF := Lib.hid (show ∀ W, Calls Try.prog 11 #[.agg #[.int .i64 (n : Int), .int .i64 (a0 : Int), .int .i64 (a1 : Int), .int .i64 (a2 : Int), .int .i64 (a3 : Int), .int .i64 (a4 : Int), .int .i64 (a5 : Int), .int .i64 (a6 : Int), .int .i64 (a7 : Int), .int .i64 (a8 : Int), .int .i64 (a9 : Int), .int .i64 (a10 : Int), .int .i64 (a11 : Int), .int .i64 (a12 : Int), .int .i64 (a13 : Int), .int .i64 (a14 : Int)]] W fun e w' => ∃ a cap, e = .returned (.slice a (15 - n) cap) ∧ Ls w' a cap (l.drop n) ∧ (0 < 15 - n → ∃ g, a = some ⟨g, 0, none⟩) ∧ Below W.heap.size W w' from fun W => by have := rfree_ls n l HW.out W; rwa [hop] at this)
  clear h0 h1 h2 h3 h4 h5 h6 h7 h8 h9 h10 h11 h12 h13 h14
  rw [hop] at HTH HONE HINF HS
  clear hop
  rw [HOP.out]
  go_wp2_with (refine wpList_store_mid rfl 27 (.tmp 7) (.tmp 15) rfl w1.heap.size 0 [.int .i64 (n : Int), .int .i64 (a0 : Int), .int .i64 (a1 : Int), .int .i64 (a2 : Int), .int .i64 (a3 : Int), .int .i64 (a4 : Int), .int .i64 (a5 : Int), .int .i64 (a6 : Int), .int .i64 (a7 : Int), .int .i64 (a8 : Int), .int .i64 (a9 : Int), .int .i64 (a10 : Int), .int .i64 (a11 : Int), .int .i64 (a12 : Int), .int .i64 (a13 : Int), .int .i64 (a14 : Int)].toArray rfl rfl HTH.out HINF.out HONE.out ?_; obtain ⟨W2, hW2, P2, B⟩ := HS.out; (first | rw [hW2] | (change wpList _ _ _ _ _ (World.setCells _ _ _ [.int .i64 (n : Int), .int .i64 (a0 : Int), .int .i64 (a1 : Int), .int .i64 (a2 : Int), .int .i64 (a3 : Int), .int .i64 (a4 : Int), .int .i64 (a5 : Int), .int .i64 (a6 : Int), .int .i64 (a7 : Int), .int .i64 (a8 : Int), .int .i64 (a9 : Int), .int .i64 (a10 : Int), .int .i64 (a11 : Int), .int .i64 (a12 : Int), .int .i64 (a13 : Int), .int .i64 (a14 : Int)]); rw [hW2])); clear hW2; have c0 := P2.c0; skip)
  clear HTH HONE HINF HS c0
  have HQ := Lib.hid (show ∀ W, KR w w1.heap.size n l W → W.cell? ⟨w1.heap.size, 0, none⟩ = some (.int .i64 (n : Int)) ∧ W.cell? ⟨w1.heap.size, 1, none⟩ = some (.int .i64 (a0 : Int)) ∧ W.cell? ⟨w1.heap.size, 2, none⟩ = some (.int .i64 (a1 : Int)) ∧ W.cell? ⟨w1.heap.size, 3, none⟩ = some (.int .i64 (a2 : Int)) ∧ W.cell? ⟨w1.heap.size, 4, none⟩ = some (.int .i64 (a3 : Int)) ∧ W.cell? ⟨w1.heap.size, 5, none⟩ = some (.int .i64 (a4 : Int)) ∧ W.cell? ⟨w1.heap.size, 6, none⟩ = some (.int .i64 (a5 : Int)) ∧ W.cell? ⟨w1.heap.size, 7, none⟩ = some (.int .i64 (a6 : Int)) ∧ W.cell? ⟨w1.heap.size, 8, none⟩ = some (.int .i64 (a7 : Int)) ∧ W.cell? ⟨w1.heap.size, 9, none⟩ = some (.int .i64 (a8 : Int)) ∧ W.cell? ⟨w1.heap.size, 10, none⟩ = some (.int .i64 (a9 : Int)) ∧ W.cell? ⟨w1.heap.size, 11, none⟩ = some (.int .i64 (a10 : Int)) ∧ W.cell? ⟨w1.heap.size, 12, none⟩ = some (.int .i64 (a11 : Int)) ∧ W.cell? ⟨w1.heap.size, 13, none⟩ = some (.int .i64 (a12 : Int)) ∧ W.cell? ⟨w1.heap.size, 14, none⟩ = some (.int .i64 (a13 : Int)) ∧ W.cell? ⟨w1.heap.size, 15, none⟩ = some (.int .i64 (a14 : Int)) ∧ KR w w1.heap.size n l W from fun W h => by
    have := HCC.out W h.pb
    exact ⟨this.1, this.2.1, this.2.2.1, this.2.2.2.1, this.2.2.2.2.1, this.2.2.2.2.2.1, this.2.2.2.2.2.2.1, this.2.2.2.2.2.2.2.1, this.2.2.2.2.2.2.2.2.1, this.2.2.2.2.2.2.2.2.2.1, this.2.2.2.2.2.2.2.2.2.2.1, this.2.2.2.2.2.2.2.2.2.2.2.1, this.2.2.2.2.2.2.2.2.2.2.2.2.1, this.2.2.2.2.2.2.2.2.2.2.2.2.2.1, this.2.2.2.2.2.2.2.2.2.2.2.2.2.2.1, this.2.2.2.2.2.2.2.2.2.2.2.2.2.2.2, h⟩)
  have KW : KR w w1.heap.size n l W2 := ⟨P2, B⟩
  clear P2 B
  go_region_held3 (fun W => W.cell? ⟨w1.heap.size, 0, none⟩ = some (.int .i64 (n : Int)) ∧ W.cell? ⟨w1.heap.size, 1, none⟩ = some (.int .i64 (a0 : Int)) ∧ W.cell? ⟨w1.heap.size, 2, none⟩ = some (.int .i64 (a1 : Int)) ∧ W.cell? ⟨w1.heap.size, 3, none⟩ = some (.int .i64 (a2 : Int)) ∧ W.cell? ⟨w1.heap.size, 4, none⟩ = some (.int .i64 (a3 : Int)) ∧ W.cell? ⟨w1.heap.size, 5, none⟩ = some (.int .i64 (a4 : Int)) ∧ W.cell? ⟨w1.heap.size, 6, none⟩ = some (.int .i64 (a5 : Int)) ∧ W.cell? ⟨w1.heap.size, 7, none⟩ = some (.int .i64 (a6 : Int)) ∧ W.cell? ⟨w1.heap.size, 8, none⟩ = some (.int .i64 (a7 : Int)) ∧ W.cell? ⟨w1.heap.size, 9, none⟩ = some (.int .i64 (a8 : Int)) ∧ W.cell? ⟨w1.heap.size, 10, none⟩ = some (.int .i64 (a9 : Int)) ∧ W.cell? ⟨w1.heap.size, 11, none⟩ = some (.int .i64 (a10 : Int)) ∧ W.cell? ⟨w1.heap.size, 12, none⟩ = some (.int .i64 (a11 : Int)) ∧ W.cell? ⟨w1.heap.size, 13, none⟩ = some (.int .i64 (a12 : Int)) ∧ W.cell? ⟨w1.heap.size, 14, none⟩ = some (.int .i64 (a13 : Int)) ∧ W.cell? ⟨w1.heap.size, 15, none⟩ = some (.int .i64 (a14 : Int)) ∧ KR w w1.heap.size n l W)
    (first | (exact HQ.out _ KW.drew) | (go_split_ands; exact HQ.out _ (KR.next ‹_› BU)) | (go_split_ands; exact HQ.out _ (KR.next ‹_› BF)) | (go_split_ands; exact HQ.out _ ‹_›))
    (first | (go_at_call 10; refine (RU.out _).mono ?_; rintro e WU ⟨aU, cU, rfl, rU, sU, BU⟩) | (go_at_call 11; refine (RF.out _).mono ?_; rintro e WF ⟨aF, cF, rfl, rF, sF, BF⟩))
  have hk : KR w w1.heap.size n l WF := by go_split_ands; assumption
  have B := hk.below
  replace rU := rU.below BF
  clear hk BF BU HQ HCC RU RF KW
  obtain ⟨gU, rfl⟩ := sU (by have := hK.out; omega)
  obtain ⟨x, hx⟩ : ∃ x, l.getD k 0 = x := ⟨_, rfl⟩
  have cU0 : WF.cell? ⟨gU, k, none⟩ = some (.int .i64 (x : Int)) := by
    obtain ⟨b, off, e, hc⟩ := rU.rd k (by rw [ints_length, hul.out]; exact hK.out)
    cases e
    rw [ints_get _ k (by rw [hul.out]; exact hK.out)] at hc
    have e : (l.take n).getD k 0 = x := by rw [← hx]; simp [List.getD, List.getElem?_take, hK.out]
    rw [e, Nat.zero_add] at hc
    exact hc
  obtain ⟨p1, c1, s1, l1⟩ := rU.hi n k hul.out (by have := hK.out; omega)
  obtain ⟨p2, c2, s2, l2⟩ := rU.lo n (k + 1) hul.out (by have := hK.out; omega)
  have HX := Lib.hid hx
  have hl1 := Lib.hid (show ((l.take n).take k).length = k by rw [List.length_take, hul.out]; have := hK.out; omega)
  have hl2 := Lib.hid (show ((l.take n).drop (k + 1)).length = n - (k + 1) by rw [List.length_drop, hul.out])
  rw [show (((k + 1 : Nat)) : Int) = (k : Int) + 1 by omega] at s2
  have wr1 : IntKind.i64.wrap ((k : Int) + 1) = (k : Int) + 1 := by rw [IntKind.wrap_i64]; omega
  clear hx sU
  have KB : Below WF.heap.size WF WF.drew := (Below.refl _ _).drew
  go_wp2_with fail
  go_region_held3 (fun W => WF.heap.size ≤ W.heap.size ∧ Below WF.heap.size WF W)
    (first | (exact ⟨KB.size, KB⟩) | (exact ⟨b1.size, b1⟩) | (exact ⟨b2.size, b2⟩))
    (first | (refine step_append_rd rfl (.const (.slice none 0 0)) (.tmp 35) rfl WF.heap.size WF KB _ 0 [] rfl (World.ownsRow_nil _ _ 3 1) p1 c1 k ((l.take n).take k) hl1.out rfl (l1.rd.below KB) l1.nl (by omega) KB.size ?_; intro v1 w3 own1 b1 g1) | (refine step_append_rd rfl (.tmp 36) (.tmp 40) rfl WF.heap.size WF b1 _ _ _ rfl own1 p2 c2 (n - (k + 1)) ((l.take n).drop (k + 1)) hl2.out rfl (l2.rd.below b1) l2.nl (by omega) b1.size ?_; intro v2 w4 own2 b2 g2))
  have hm1 : (l.take n).take k ++ (l.take n).drop (k + 1) = (l.take n).take k ++ (l.take n).drop (k + 1) := rfl
  rw [List.nil_append, ← iv_append] at own2
  have hn1 : 0 + k + (n - (k + 1)) = n - 1 := by have := hK.out; omega
  rw [hn1] at own2
  have hll := Lib.hid (show ((l.take n).take k ++ (l.take n).drop (k + 1)).length = n - 1 by rw [List.length_append, hl1.out, hl2.out]; have := hK.out; omega)
  obtain ⟨a3, c3, rfl, l3, _⟩ := own_ls own2 hll.out
  have cU1 : w4.cell? ⟨gU, k, none⟩ = some (.int .i64 (x : Int)) := (b2.cell (p := ⟨gU, k, none⟩) (World.block_lt_of_cell? WF _ cU0)).trans cU0
  replace rF := rF.below b2
  have B5 := step_below B b2
  have HL := Lib.hid (rem_list hlen (by omega) hK.out)
  rw [HX.out] at HL
  have hW2 := Lib.hid (wrd_mk (mvd_wrd HW.out k (n - 1) (by have := hK.out; omega) (by have := hK.out; omega)) (show n - 1 < 16 by omega))
  have hlb := Lib.hid (show ([x] ++ l.drop n).length = 1 + (15 - n) by rw [List.length_append, hfl.out]; rfl)
  have HQ := Lib.hid (show ∀ W, Below w4.heap.size w4 W → W.cell? ⟨gU, k, none⟩ = some (.int .i64 (x : Int)) ∧ Below w4.heap.size w4 W from fun W b => ⟨(b.cell (p := ⟨gU, k, none⟩) (World.block_lt_of_cell? w4 _ cU1)).trans cU1, b⟩)
  clear own2 own1 b1 b2 g1 g2 cU0 cU1 l1 l2 s1 s2 rU B hm1 hn1
  go_wp2_with fail
  go_region_held3 (fun W => W.cell? ⟨gU, k, none⟩ = some (.int .i64 (x : Int)) ∧ Below w4.heap.size w4 W)
    (first | (exact HQ.out _ (Below.refl _ _).drew) | (exact HQ.out _ (((Below.refl _ _).alloc (Nat.le_refl _) _).drew)) | (exact HQ.out _ ((Below.refl _ _).drew.alloc (Nat.le_refl _) _)) | (exact HQ.out _ b3) | (exact HQ.out _ (step_below b3 Bm)))
    (first | (refine step_append_rd rfl (.tmp 47) (.tmp 48) rfl w4.heap.size w4 (by go_split_ands; assumption) _ 1 [.int .i64 (x : Int)] rfl (World.ownsRow_lit _ #[.int .i64 (x : Int)] 1 (Nat.le_refl _) (by decide) rfl) aF cF (15 - n) (l.drop n) hfl.out rfl (rF.rd.below (by go_split_ands; assumption)) rF.nl (by omega) (Below.size (by go_split_ands; assumption)) ?_; intro v3 w5 own3 b3 g3; obtain ⟨a5, c5, rfl, l5, _⟩ := own_ls (l := [x] ++ l.drop n) (by rw [iv_append]; exact own3) hlb.out) | (go_at_call 32; refine (made_at _ _ _ HL.out (n - 1) (1 + (15 - n)) hll.out hlb.out hW2.out a3 a5 c3 c5 _ (l3.below b3) l5).mono ?_; rintro e wm ⟨rfl, Bm⟩))
  go_wp2_with fail
  go_ret3
  exact ⟨by rw [HX.out]; rfl, step_below B5 (step_below b3 Bm)⟩
end Go.Proofs.Ytochdmdojcfceaa
