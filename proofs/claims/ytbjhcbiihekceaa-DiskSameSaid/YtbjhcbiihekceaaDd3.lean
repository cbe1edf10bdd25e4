/- Disks: the chapter's rows. -/
import Derived.Test.YtbjhcbiihekceaaDd2
import Derived.Test.YtbjhcbiihekceaaDc3
import Derived.Lib.SlBytesConst
namespace Go.Proofs.Ytbjhcbiihekceaa
open Go.ChangeShapes Go.WideShapes Go.ChangeAt Go.RowKit Go.Maps
set_option linter.unusedVariables false
set_option linter.unusedSimpArgs false
def zo1020 : Obj := .cells (madeCells #[.int .u8 0] 1020) 5 (0, 0)
theorem cell_lt {W : World} {b o : Nat} {v : Value} (h : W.cell? ⟨b, o, none⟩ = some v) : b < W.heap.size := by
  unfold World.cell? at h
  by_cases hh : b < W.heap.size
  · exact hh
  · simp [Array.getElem?_eq_none (Nat.le_of_not_lt hh)] at h
theorem kn_names {w : World} {p bm : Nat} {O : Nat → Prop} (h : DC w p bm 1024 C4 O) : Calls Try.prog 22 #[.pointer (some ⟨p, 0, none⟩)] w fun e w' => ∃ g cap, e = .returned (.slice (some ⟨g, 0, none⟩) 1 cap) ∧ w'.cell? ⟨g, 0, none⟩ = some (.string kB) ∧ Below w.heap.size w w' := by
  refine (c_names h).mono ?_
  rintro e w' ⟨v, rfl, ho, hb⟩
  obtain ⟨g, cap, rfl, _, hc⟩ := row_cells ho (by decide)
  exact ⟨g, cap, rfl, hc 0 _ rfl, hb⟩
set_option maxRecDepth 8192 in
set_option maxHeartbeats 4000000 in
/-- known (15). -/
theorem dknown_law (w : World) : Calls Try.prog 15 #[] w fun e w' => e = .returned (.bool true) ∧ Below w.heap.size w w' := by
  have kc := fun (w : World) (C : Array Value) (n c : Nat) => Lib.run_convert_bytes_const (P := Try.prog) w 34 5 C n c Try.underlying34 Try.underlying5
  go_enter Try.func15, Try.ntmps15
  go_wp2_with fail
  refine (c_new 1024 (by omega) (by omega) w).mono ?_
  rintro e w1 ⟨rfl, hd, hb⟩
  have H1 := Lib.hid (KD.mk (m := w1.heap.size) (hd.mono fun k h1 h2 => ⟨h1, h2⟩) hb (Nat.le_refl _) hb.size)
  clear hd hb
  go_wp2_with fail
  refine (dnew_bad 1023 (by omega) w1).mono ?_
  rintro e w' ⟨rfl, rfl⟩
  go_wp2_with fail
  refine (kn_app (H1.out.below (bl1 _ _)) kX (by decide) _ 1 _ [120] rfl (by decide) (by unfold Byt; decide) (ls_new .u8 _ [120] _ _ _ rfl 1 rfl) 2 v_appX [] v_appXC).mono ?_
  rintro e w2 ⟨rfl, h, ho⟩
  have H2 := Lib.hid h
  clear H1 h ho
  go_wp2_with fail
  refine (kn_app (H2.out.below (bl1 _ _)) kA (by decide) _ 3 _ xyz rfl (by decide) (by unfold Byt; decide) (ls_new .u8 _ xyz _ _ _ rfl 3 rfl) 0 v_appA C1 v_appAC).mono ?_
  rintro e w3 ⟨rfl, h, ho⟩
  have H3 := Lib.hid h
  clear H2 h ho
  go_wp2_with fail
  refine (dc_read H3.out.dc kB (by decide) 6 (by rw [v_readB]; rfl) [] v_readBV 0 rfl).mono ?_
  rintro e w4 ⟨a1, c1, rfl, hx, hb⟩
  have H4 := Lib.hid (H3.out.below hb)
  clear H3 hx hb
  go_wp2_with fail
  refine (kn_sync H4.out kB (by decide) 6 (by rw [v_readB]; rfl) C1 v_syncBC).mono ?_
  rintro e w5 ⟨rfl, h, ho⟩
  have H5 := Lib.hid h
  clear H4 h ho
  go_wp2_with fail
  refine (kn_sync H5.out kA (by decide) 0 (by rw [v_syncA]; rfl) C2 v_syncAC).mono ?_
  rintro e w6 ⟨rfl, h, ho⟩
  have H6 := Lib.hid h
  clear H5 h ho
  go_wp2_with fail
  refine (kn_app (H6.out.below (bl1 _ _)) kA (by decide) _ 2 _ [117, 118] rfl (by decide) (by unfold Byt; decide) (ls_new .u8 _ [117, 118] _ _ _ rfl 2 rfl) 0 v_appU C3 v_appUC).mono ?_
  rintro e w7 ⟨rfl, h, ho⟩
  have H7 := Lib.hid h
  clear H6 h ho
  go_wp2_with fail
  refine (kn_last H7.out kA (by decide) 0 (by rw [v_lastAE]; rfl) 3 (by rw [v_lastA]; rfl)).mono ?_
  rintro e w8 ⟨rfl, h, ho⟩
  have H8 := Lib.hid h
  clear H7 h ho
  go_wp2_with fail
  refine (dc_crash_ok (H8.out.below (bl1 _ _)).dc _ [(kA, 1)] 1 _ rfl (kps_one _ _ _ _ _) (by decide) (by decide) v_crash1 _ v_crash1C).mono ?_
  rintro e w9 ⟨p2, bm2, rfl, hx, hb⟩
  have H9 := Lib.hid ((H8.out.below (bl1 _ _)).below hb)
  have HX := Lib.hid hx
  clear H8 hx hb
  go_wp2_with fail
  refine (dc_read HX.out kA (by decide) 0 (by rw [v_readX]; rfl) [120, 121, 122, 117] v_readXV 4 rfl).mono ?_
  rintro e w10 ⟨ya, yc, rfl, hy, hb⟩
  obtain ⟨hy1, hy2⟩ := hy
  obtain ⟨yg, rfl, hyg⟩ := hy2 (by decide)
  have HY10 := Lib.hid hy1
  have HG := Lib.hid (Nat.le_trans H9.out.le hyg)
  have H10 := Lib.hid (H9.out.below hb)
  clear H9 HX hy1 hy2 hyg hb
  go_wp2_with fail
  refine (kn_ren H10.out kA kB (by decide) (by decide) 0 (by rw [v_ren1]; rfl) C4 v_ren1C).mono ?_
  rintro e w11 ⟨rfl, h, ho⟩
  have H11 := Lib.hid h
  have HY11 := Lib.hid (HY10.out.off ho fun e => Nat.lt_irrefl _ (Nat.lt_of_lt_of_le e.2 HG.out))
  clear H10 HY10 h ho HG
  go_wp2_with fail
  refine (c_rename_no H11.out.dc kA kB (by decide) (by decide) 6 (by rw [v_ren2]; rfl) (by decide)).mono ?_
  rintro e w12 ⟨rfl, hb⟩
  have H12 := Lib.hid (H11.out.below hb)
  have HY12 := Lib.hid (HY11.out.below hb)
  clear H11 HY11 hb
  go_wp2_with fail
  refine (kn_names H12.out.dc).mono ?_
  rintro e w13 ⟨ng, nc, rfl, hn, hb⟩
  have H13 := Lib.hid (H12.out.below hb)
  have HY13 := Lib.hid (HY12.out.below hb)
  have HN13 := Lib.hid hn
  have HL := Lib.hid (cell_lt hn)
  clear H12 HY12 hb hn
  have k1020 : ∀ W : World, (Instr.makeSlice 34 (.int .i64 1020) (.int .i64 1020)).run Try.prog W = .ok (.slice (some ⟨W.heap.size, 0, none⟩) 1020 1020) (W.alloc zo1020) := fun W => mk_run 1020 (by omega) W
  go_wp2_with fail
  refine (c_append_no (H13.out.below (bl1 _ _)).dc kC (by decide) _ 1020 _ (by decide) 5 v_appC (by decide)).mono ?_
  rintro e w14 ⟨rfl, hb⟩
  have HB := Lib.hid (step_below (bl1 _ _) hb)
  have H14 := Lib.hid (H13.out.below HB.out)
  have HY14 := Lib.hid (HY13.out.below HB.out)
  have HN14 := Lib.hid ((HB.out.cell HL.out).trans HN13.out)
  replace HL := Lib.hid (Nat.lt_of_lt_of_le HL.out HB.out.size)
  clear H13 HY13 HN13 HB hb
  clear k1020
  go_wp2_with fail
  refine (dc_crash_no (H14.out.below (bl1 _ _)).dc _ [(kB, -1)] 1 _ rfl (kps_one _ _ _ _ _) (by decide) (by decide) 2 (by rw [v_crash2]; rfl) (by rw [v_crash2]; decide)).mono ?_
  rintro e w15 ⟨rfl, hb⟩
  have HB := Lib.hid (step_below (bl1 _ _) hb)
  have H15 := Lib.hid (H14.out.below HB.out)
  have HY15 := Lib.hid (HY14.out.below HB.out)
  have HN15 := Lib.hid ((HB.out.cell HL.out).trans HN14.out)
  replace HL := Lib.hid (Nat.lt_of_lt_of_le HL.out HB.out.size)
  clear H14 HY14 HN14 HB hb
  go_wp2_with fail
  refine (dc_crash_no (H15.out.below (bl1 _ _)).dc _ [(kB, 1), (kB, 1)] 2 _ rfl (kps_two _ _ _ _ _ _ _) (by decide) (by decide) 2 (by rw [v_crash3]; rfl) (by rw [v_crash3]; decide)).mono ?_
  rintro e w16 ⟨rfl, hb⟩
  have HB := Lib.hid (step_below (bl1 _ _) hb)
  have H16 := Lib.hid (H15.out.below HB.out)
  have HY16 := Lib.hid (HY15.out.below HB.out)
  have HN16 := Lib.hid ((HB.out.cell HL.out).trans HN15.out)
  replace HL := Lib.hid (Nat.lt_of_lt_of_le HL.out HB.out.size)
  clear H15 HY15 HN15 HB hb
  go_wp2_with fail
  refine (dc_crash_no (H16.out.below (bl1 _ _)).dc _ [(kC, 1)] 1 _ rfl (kps_one _ _ _ _ _) (by decide) (by decide) 6 (by rw [v_crash4]; rfl) (by rw [v_crash4]; decide)).mono ?_
  rintro e w17 ⟨rfl, hb⟩
  have HB := Lib.hid (step_below (bl1 _ _) hb)
  have H17 := Lib.hid (H16.out.below HB.out)
  have HY17 := Lib.hid (HY16.out.below HB.out)
  have HN17 := Lib.hid ((HB.out.cell HL.out).trans HN16.out)
  replace HL := Lib.hid (Nat.lt_of_lt_of_le HL.out HB.out.size)
  clear H16 HY16 HN16 HB hb
  go_wp2_with fail
  refine (dc_crash_ok H17.out.dc none [] 0 _ rfl (kps_nil _ _) (by decide) (by decide) v_crash5 _ v_crash5C).mono ?_
  rintro e w18 ⟨p3, bm3, rfl, hz, hb⟩
  have HB := Lib.hid hb
  have H18 := Lib.hid (H17.out.below HB.out)
  have HY18 := Lib.hid (HY17.out.below HB.out)
  have HN18 := Lib.hid ((HB.out.cell HL.out).trans HN17.out)
  replace HL := Lib.hid (Nat.lt_of_lt_of_le HL.out HB.out.size)
  have HZ := Lib.hid hz
  clear hz
  clear H17 HY17 HN17 HB hb
  go_wp2_with fail
  refine (dc_read HZ.out kB (by decide) 0 (by rw [v_readZ]; rfl) xyz v_readZV 3 rfl).mono ?_
  rintro e w19 ⟨za, zc, rfl, hz, hb⟩
  have HB := Lib.hid hb
  have H19 := Lib.hid (H18.out.below HB.out)
  have HY19 := Lib.hid (HY18.out.below HB.out)
  have HN19 := Lib.hid ((HB.out.cell HL.out).trans HN18.out)
  replace HL := Lib.hid (Nat.lt_of_lt_of_le HL.out HB.out.size)
  have HZ19 := Lib.hid hz.1
  clear hz HZ
  clear H18 HY18 HN18 HB hb
  have y1 : (convert 34 9 (.slice (some ⟨yg, 0, none⟩) 4 yc)).run Try.prog w19 = .ok (.string ⟨#[120, 121, 122, 117]⟩) w19 := conv_ls w19 _ 4 yc [120, 121, 122, 117] rfl HY19.out.rd
  have n1 : w19.cell? ⟨ng, 0, none⟩ = some (.string ⟨#[98]⟩) := HN19.out
  have HU := Lib.hid ((c_used H19.out.dc).mono (R' := fun e w' => e = .returned (.int .i64 5) ∧ Below w19.heap.size w19 w') fun e w' h => ⟨by rw [h.1, v_used]; rfl, h.2⟩)
  clear HY19 HN19 HL
  go_wp2_with (first
    | (go_at_call 14; refine (dnum_law _ _).mono ?_; rintro e w' ⟨rfl, rfl⟩)
    | (go_at_call 23; refine HU.out.mono ?_; rintro e w20 ⟨rfl, hb⟩; have z1 : (convert 34 9 (.slice za 3 zc)).run Try.prog w20 = .ok (.string ⟨#[120, 121, 122]⟩) w20 := conv_ls w20 _ 3 zc xyz rfl (HZ19.out.below hb).rd; have H20 := Lib.hid (H19.out.below hb); clear hb HU y1 n1 H19))
  go_ret
  exact ⟨rfl, H20.out.be⟩
end Go.Proofs.Ytbjhcbiihekceaa
