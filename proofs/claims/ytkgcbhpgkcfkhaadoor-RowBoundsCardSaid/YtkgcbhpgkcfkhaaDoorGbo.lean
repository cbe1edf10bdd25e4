/- The walk of RowBounds. -/
import Derived.Test.YtkgcbhpgkcfkhaaDoorGbc
import Derived.Deep.DeepCutAuto
namespace Go.Proofs.YtkgcbhpgkcfkhaaDoor
open Go.ChangeShapes Go.WideShapes Go.ChangeAt Go.RowKit
set_option linter.unusedVariables false
set_option linter.unusedSimpArgs false

/-- A new block of noughts. -/
def zo (n : Nat) : Obj := .cells (madeCells #[.int .u8 0] n) 5 (0, 0)
theorem mk_run (n : Nat) (hn : n ≤ 1000000) (w : World) : (Instr.makeSlice 22 (.int .i64 (n : Int)) (.int .i64 (n : Int))).run Tryd.prog w = .ok (.slice (some ⟨w.heap.size, 0, none⟩) n n) (w.alloc (zo n)) := by
  obtain ⟨i0, hi, hz0, hz1, hz2⟩ := info_parts eltB.inf
  have hr := run_make (P := Tryd.prog) w 22 5 i0 (.int .u8 0) Tryd.underlying22 hi hz0 .i64 .i64 n n (by omega) (Int.le_refl _) (by rw [hz2]; omega) (by omega)
  simp only [Int.toNat_natCast] at hr
  rw [hr, hz1]
  simp [zo, Value.cells]
theorem zo_ls (w : World) (n : Nat) : Ls .u8 (w.alloc (zo n)) (some ⟨w.heap.size, 0, none⟩) n (zs n) := by
  refine ls_new .u8 w (zs n) _ _ _ ?_ n (zs_length n)
  apply Array.ext'
  rw [toList_madeCells_one]
  simp [iv, zs]
theorem zo_below (w : World) (n : Nat) : Below w.heap.size w (w.alloc (zo n)) := (Below.refl _ _).alloc (Nat.le_refl _) _
theorem z3 (w : World) (i : Nat) (hi : i < 3) : Ls .u8 (((w.alloc (zo 24)).alloc (zo 24)).alloc (zo 24)) (some ⟨w.heap.size + i, 0, none⟩) 24 (zs 24) := by
  rcases (show i = 0 ∨ i = 1 ∨ i = 2 by omega) with rfl | rfl | rfl
  · exact ((zo_ls w 24).below (zo_below _ _)).below (zo_below _ _)
  · have h := (zo_ls (w.alloc (zo 24)) 24).below (zo_below _ 24)
    rwa [World.size_alloc] at h
  · have h := zo_ls ((w.alloc (zo 24)).alloc (zo 24)) 24
    rwa [World.size_alloc, World.size_alloc] at h
theorem full_rdr (w : World) (i j k : Nat) (hi : i < 3) (hj : j < 3) (hk : k < 3) :
    ∃ R : List P1, R.map P1.bs = [zs 24, zs 24, zs 24] ∧ RdR ((((w.alloc (zo 24)).alloc (zo 24)).alloc (zo 24)).alloc (.cells #[.slice (some ⟨w.heap.size + i, 0, none⟩) 24 24, .slice (some ⟨w.heap.size + j, 0, none⟩) 24 24, .slice (some ⟨w.heap.size + k, 0, none⟩) 24 24] 22 (0, 0))) (some ⟨w.heap.size + 3, 0, none⟩) R := by
  have h := rdR_new (((w.alloc (zo 24)).alloc (zo 24)).alloc (zo 24)) [⟨some ⟨w.heap.size + i, 0, none⟩, 24, zs 24⟩, ⟨some ⟨w.heap.size + j, 0, none⟩, 24, zs 24⟩, ⟨some ⟨w.heap.size + k, 0, none⟩, 24, zs 24⟩] #[.slice (some ⟨w.heap.size + i, 0, none⟩) 24 24, .slice (some ⟨w.heap.size + j, 0, none⟩) 24 24, .slice (some ⟨w.heap.size + k, 0, none⟩) 24 24] 22 (0, 0) (by simp [P1.v, zs_length]) (by
    intro p hp
    simp only [List.mem_cons, List.not_mem_nil, or_false] at hp
    rcases hp with rfl | rfl | rfl
    · exact z3 w i hi
    · exact z3 w j hj
    · exact z3 w k hk)
  rw [World.size_alloc, World.size_alloc, World.size_alloc] at h
  exact ⟨_, rfl, h⟩
theorem full_below (w : World) (o : Obj) : Below w.heap.size w ((((w.alloc (zo 24)).alloc (zo 24)).alloc (zo 24)).alloc o) := step_below (step_below (step_below (zo_below w 24) (zo_below _ 24)) (zo_below _ 24)) ((Below.refl _ _).alloc (Nat.le_refl _) _)
theorem row_cells {W : World} {g o : Nat} {R : List P1} (h : RdR W (some ⟨g, o, none⟩) R) : ∀ j u, (R.map P1.v)[j]? = some u → W.cell? ((⟨g, o, none⟩ : Addr).add j) = some u := fun j u hj => by
  rw [List.getElem?_map] at hj
  cases hp : R[j]? with
  | none => rw [hp] at hj; cases hj
  | some p =>
    rw [hp] at hj
    obtain ⟨b, off, e, hc, _⟩ := h j p hp
    cases e
    rw [← Option.some.inj hj]
    rw [show ((⟨g, o, none⟩ : Addr).add j) = ⟨g, o + j, none⟩ by unfold Addr.add; split <;> simp_all]
    exact hc
theorem row_one (R : List P1) : ∀ u ∈ R.map P1.v, u.oneCell' = true := fun u hu => by
  obtain ⟨p, _, rfl⟩ := List.mem_map.1 hu
  rfl
theorem RdR.ls {W : World} {a : Option Addr} {R : List P1} (h : RdR W a R) {p : P1} (hp : p ∈ R) : Ls .u8 W p.ad p.cap p.bs := by
  obtain ⟨k, hk⟩ := List.mem_iff_getElem?.1 hp
  obtain ⟨_, _, _, _, l⟩ := h k p hk
  exact l
theorem below_box (w : World) (o : Obj) : Below w.heap.size w (w.alloc o) := (Below.refl _ w).alloc (Nat.le_refl _) o
theorem e82a (w : World) : Calls Tryd.prog 18 #[.slice (some ⟨w.heap.size, 0, none⟩) 24 24, .slice (some ⟨w.heap.size + 1, 0, none⟩) 32 32] ((w.alloc (zo 24)).alloc (zo 32)).drew fun r w' => (∃ a c, r = .returned (.tuple #[.slice a 82 c, .int .i64 0])) ∧ Below w.heap.size w w' := by
  have h := zo_ls (w.alloc (zo 24)) 32
  rw [World.size_alloc] at h
  exact (entry82 _ _ 24 32 _ ((zo_ls w 24).below (zo_below _ _)).drew h.drew).mono fun r w' ⟨h1, h2⟩ => ⟨h1, step_below (step_below (zo_below w 24) (zo_below _ 32).drew) h2⟩
theorem e82b (w : World) : Calls Tryd.prog 18 #[.slice (some ⟨w.heap.size + 1, 0, none⟩) 24 24, .slice (some ⟨w.heap.size, 0, none⟩) 32 32] ((w.alloc (zo 32)).alloc (zo 24)).drew fun r w' => (∃ a c, r = .returned (.tuple #[.slice a 82 c, .int .i64 0])) ∧ Below w.heap.size w w' := by
  have h := zo_ls (w.alloc (zo 32)) 24
  rw [World.size_alloc] at h
  exact (entry82 _ _ 24 32 _ h.drew ((zo_ls w 32).below (zo_below _ _)).drew).mono fun r w' ⟨h1, h2⟩ => ⟨h1, step_below (step_below (zo_below w 32) (zo_below _ 24).drew) h2⟩
theorem my32 (a : Option Addr) (cap : Nat) (w : World) : Calls Tryd.prog 21 #[.slice a 32 cap] w fun r w' => r = .returned (.bool true) ∧ w = w' := maykey_law a 32 cap w
theorem my33 (a : Option Addr) (cap : Nat) (w : World) : Calls Tryd.prog 21 #[.slice a 33 cap] w fun r w' => r = .returned (.bool false) ∧ w = w' := maykey_law a 33 cap w
theorem my0 (a : Option Addr) (cap : Nat) (w : World) : Calls Tryd.prog 21 #[.slice a 0 cap] w fun r w' => r = .returned (.bool false) ∧ w = w' := maykey_law a 0 cap w
set_option maxRecDepth 100000 in
set_option maxHeartbeats 16000000 in
theorem bounds_law (w : World) : Calls Tryd.prog 5 #[] w fun r w' => r = .returned (.bool true) ∧ Below w.heap.size w w' := by
  go_enter Tryd.func5, Tryd.ntmps5
  go_wp2_with fail
  go_cut [1] (fun v wx => ∃ (a : Option Addr) (R : List P1), v = .slice a 3 3 ∧ Hid (R.map P1.bs = [zs 24, zs 24, zs 24] ∧ RdR wx a R) ∧ Below w.heap.size w wx)
  case first =>
    have hmk : ∀ w, (Instr.makeSlice 22 (.int .i64 24) (.int .i64 24)).run Tryd.prog w = .ok (.slice (some ⟨w.heap.size, 0, none⟩) 24 24) (w.alloc (zo 24)) := fun w => mk_run 24 (by omega) w
    go_region
    all_goals go_wp2_with fail
    all_goals go_meet
    all_goals first
      | (obtain ⟨R, h1, h2⟩ := full_rdr w 0 1 2 (by omega) (by omega) (by omega); exact ⟨_, R, rfl, Lib.hid ⟨h1, h2.drew⟩, (full_below w _).drew⟩)
      | (obtain ⟨R, h1, h2⟩ := full_rdr w 0 2 1 (by omega) (by omega) (by omega); exact ⟨_, R, rfl, Lib.hid ⟨h1, h2.drew⟩, (full_below w _).drew⟩)
      | (obtain ⟨R, h1, h2⟩ := full_rdr w 1 0 2 (by omega) (by omega) (by omega); exact ⟨_, R, rfl, Lib.hid ⟨h1, h2.drew⟩, (full_below w _).drew⟩)
      | (obtain ⟨R, h1, h2⟩ := full_rdr w 1 2 0 (by omega) (by omega) (by omega); exact ⟨_, R, rfl, Lib.hid ⟨h1, h2.drew⟩, (full_below w _).drew⟩)
      | (obtain ⟨R, h1, h2⟩ := full_rdr w 2 0 1 (by omega) (by omega) (by omega); exact ⟨_, R, rfl, Lib.hid ⟨h1, h2.drew⟩, (full_below w _).drew⟩)
      | (obtain ⟨R, h1, h2⟩ := full_rdr w 2 1 0 (by omega) (by omega) (by omega); exact ⟨_, R, rfl, Lib.hid ⟨h1, h2.drew⟩, (full_below w _).drew⟩)
  case rest =>
    obtain ⟨A, R, rfl, hF, hb⟩ := hcut
    have HF := Lib.hid (show Full wc A R from ⟨hF.out.1, hF.out.2⟩)
    clear hF
    have HB := Lib.hid hb
    clear hb
    go_wp2_with fail
    refine (HF.out.bytes 3).mono ?_; rintro r W2 ⟨⟨a2, c2, rfl⟩, B⟩
    replace HF := Lib.hid (HF.out.below B)
    replace HB := Lib.hid (step_below HB.out B)
    clear B
    go_wp2_with fail
    refine (HF.out.words 3).mono ?_; rintro r W3 ⟨a3, c3, rfl, hw, B⟩
    replace HF := Lib.hid (HF.out.below B)
    replace HB := Lib.hid (step_below HB.out B)
    have HW := Lib.hid hw
    clear B hw
    go_wp2_with fail
    refine (of_full a3 c3 W3 HW.out).mono ?_; rintro r W4 ⟨⟨a4, c4, R4, rfl, h4, h5⟩, B⟩
    replace HF := Lib.hid (HF.out.below B)
    replace HB := Lib.hid (step_below HB.out B)
    replace HW := Lib.hid (HW.out.below B)
    have HR := Lib.hid (show Full W4 a4 R4 from ⟨h4, h5⟩)
    clear B h4 h5
    have hsz4 : W4.heap.size ≤ W4.heap.size := Nat.le_refl _
    go_wp2_with (at_builtin; refine append_ls eltW rfl (.const (.slice none 0 0)) (.tmp 57) rfl W4.heap.size (.slice none 0 0) 0 [] rfl (World.ownsRow_nil _ _ _ _) _ _ 11 U0 U0_len rfl HW.out (by omega) (by omega) ?_)
    intro v5 w5 hown5 hgrow5
    have B5 := (Below.refl W4.heap.size W4).grown hgrow5 (by simp) (fun j hj => by cases hj)
    have hsz5 := B5.size
    have HO5 := Lib.hid hown5
    have HB5 := Lib.hid B5
    clear hown5 hgrow5 B5
    go_wp2_with (at_builtin; refine append_ls eltW rfl (.tmp 58) (.tmp 59) rfl W4.heap.size _ 11 _ rfl (HO5.out.alloc _) _ _ 1 [0] rfl rfl (ls_new .u64 _ [0] _ _ _ rfl 1 rfl) (by omega) (by simp; omega) ?_)
    intro v6 w6 hown6 hgrow6
    have B6 := (HB5.out.alloc hsz5 _).grown hgrow6 (by simp; omega) (fun j hj => (HO5.out.lt j hj).1)
    rw [← iv_append] at hown6
    obtain ⟨a6, c6, rfl, l6, _⟩ := own_ls hown6 (by rw [List.length_append, U0_len]; rfl)
    replace HF := Lib.hid (HF.out.below B6)
    replace HR := Lib.hid (HR.out.below B6)
    replace HB := Lib.hid (step_below HB.out B6)
    have HL := Lib.hid l6
    clear hown6 hgrow6 B6 l6 HO5 HB5 hsz5 hsz4 HW
    go_wp2_with fail
    refine (of_twelve a6 c6 w6 HL.out).mono ?_; rintro r W7 ⟨rfl, B⟩
    replace HF := Lib.hid (HF.out.below B)
    replace HR := Lib.hid (HR.out.below B)
    replace HB := Lib.hid (step_below HB.out B)
    clear B HL
    go_wp2_with fail
    refine (of_nil W7).mono ?_; rintro r W8 ⟨rfl, B⟩
    replace HF := Lib.hid (HF.out.below B)
    replace HR := Lib.hid (HR.out.below B)
    replace HB := Lib.hid (step_below HB.out B)
    clear B
    go_wp2_with fail
    have BA := below_box W8 (.cells #[.int .u64 3, .int .u64 72445721642532865] 49 (0, 0))
    refine (of_j _ _ _ (ls_new .u64 W8 [3, 72445721642532865] _ _ _ rfl 2 rfl)).mono ?_; rintro r W9 ⟨rfl, B⟩
    replace B := step_below BA B
    replace HF := Lib.hid (HF.out.below B)
    replace HR := Lib.hid (HR.out.below B)
    replace HB := Lib.hid (step_below HB.out B)
    clear B BA
    go_wp2_with fail
    have BA := below_box W9 (.cells #[.int .u64 3, .int .u64 72445721642532864, .int .u64 0] 49 (0, 0))
    refine (of_k _ _ _ (ls_new .u64 W9 [3, 72445721642532864, 0] _ _ _ rfl 3 rfl)).mono ?_; rintro r W10 ⟨rfl, B⟩
    replace B := step_below BA B
    replace HF := Lib.hid (HF.out.below B)
    replace HR := Lib.hid (HR.out.below B)
    replace HB := Lib.hid (step_below HB.out B)
    clear B BA
    go_wp2_with fail
    have BA := below_box W10 (.cells #[.int .u64 2, .int .u64 72445721642532864] 49 (0, 0))
    refine (of_l _ _ _ (ls_new .u64 W10 [2, 72445721642532864] _ _ _ rfl 2 rfl)).mono ?_; rintro r W11 ⟨rfl, B⟩
    replace B := step_below BA B
    replace HF := Lib.hid (HF.out.below B)
    replace HR := Lib.hid (HR.out.below B)
    replace HB := Lib.hid (step_below HB.out B)
    clear B BA
    go_wp2_with fail
    have BA := below_box W11 (.cells #[.int .u64 4611686018427387904] 49 (0, 0))
    refine (of_m _ _ _ (ls_new .u64 W11 [4611686018427387904] _ _ _ rfl 1 rfl)).mono ?_; rintro r W12 ⟨rfl, B⟩
    replace B := step_below BA B
    replace HF := Lib.hid (HF.out.below B)
    replace HR := Lib.hid (HR.out.below B)
    replace HB := Lib.hid (step_below HB.out B)
    clear B BA
    obtain ⟨i0, hi, hz0, hz1, hz2⟩ := info_parts info24
    have hlen := HF.out.len
    obtain ⟨gA, oA, rfl, _, _⟩ : ∃ b off, A = some ⟨b, off, none⟩ ∧ True ∧ True := by
      obtain ⟨b, off, e, _⟩ := HF.out.rd 0 R[0] (List.getElem?_eq_getElem (by omega))
      exact ⟨b, off, e, trivial, trivial⟩
    have hnews : ∀ j u, (R.map P1.v)[j]? = some u → W12.cell? ((⟨gA, oA, none⟩ : Addr).add j) = some u := row_cells HF.out.rd
    have hsz : W12.heap.size ≤ W12.heap.size := Nat.le_refl _
    go_wp2_with (at_builtin; refine wpList_append_own _ rfl (.const (.slice none 0 0)) (.tmp 88) 26 rfl W12.heap.size 22 i0 (.slice none 0 0) 1 24 Tryd.underlying26 hi hz0 hz1 hz2 rfl (by decide) _ 0 [] rfl (World.ownsRow_nil _ _ _ _) ⟨gA, oA, none⟩ 3 3 (R.map P1.v) rfl (by rw [List.length_map, hlen]) hnews (row_one R) (by unfold maxLen; omega) (by omega) (by omega) ?_)
    intro v13 w13 hown13 hgrow13 _
    have B13 := (Below.refl W12.heap.size W12).grown hgrow13 (by simp) (fun j hj => by cases hj)
    have hsz13 := B13.size
    have HO := Lib.hid hown13
    have HB13 := Lib.hid B13
    clear hown13 hgrow13 B13 hnews
    go_wp2_with (at_builtin; refine wpList_append_own _ rfl (.tmp 89) (.tmp 90) 26 rfl W12.heap.size 22 i0 (.slice none 0 0) 1 24 Tryd.underlying26 hi hz0 hz1 hz2 rfl (by decide) _ 3 (R.map P1.v) rfl (HO.out.alloc _) ⟨w13.heap.size, 0, none⟩ 1 1 [.slice none 0 0] rfl rfl (by intro j u hj; match j, hj with | 0, hj => (simp at hj; subst hj; simp [Addr.add, go_sem])) (by intro u hu; simp at hu; subst hu; rfl) (by unfold maxLen; omega) (by omega) (by simp; omega) ?_)
    intro v14 w14 hown14 hgrow14 _
    have B14 := (HB13.out.alloc hsz13 _).grown hgrow14 (by simp; omega) (fun j hj => (HO.out.lt j hj).1)
    replace HF := Lib.hid (HF.out.below B14)
    replace HR := Lib.hid (HR.out.below B14)
    replace HB := Lib.hid (step_below HB.out B14)
    obtain ⟨a14, c14, rfl, h14⟩ := own_rdr (R := R ++ [⟨none, 0, []⟩]) (by rw [List.map_append]; exact hown14) (by rw [List.length_append, hlen]; rfl) (fun p hp => by
      rcases List.mem_append.1 hp with hp | hp
      · exact HF.out.rd.ls hp
      · rw [List.mem_singleton] at hp; subst hp; exact Ls.nul _ _)
    obtain ⟨S, hS, bS, h14⟩ : ∃ S : List P1, S.length = 4 ∧ (∀ p ∈ S, Byt p.bs) ∧ RdR w14 a14 S := ⟨R ++ [⟨none, 0, []⟩], by rw [List.length_append, hlen]; rfl, fun p hp => (by
      rcases List.mem_append.1 hp with hp | hp
      · exact HF.out.byt p hp
      · rw [List.mem_singleton] at hp; subst hp; exact (fun x hx => by simp at hx)), h14⟩
    have HS := Lib.hid (And.intro hS bS)
    have HQ := Lib.hid h14
    clear hown14 hgrow14 B14 HO HB13 hsz13 hsz hlen hi hz0 hz1 hz2 h14 hS bS
    go_wp2_with fail
    refine (bytes4 a14 S c14 HS.out.1 w14 HQ.out).mono ?_; rintro r W15 ⟨rfl, B⟩
    replace HF := Lib.hid (HF.out.below B)
    replace HR := Lib.hid (HR.out.below B)
    replace HQ := Lib.hid (HQ.out.below B)
    replace HB := Lib.hid (step_below HB.out B)
    clear B
    go_wp2_with fail
    have BA := below_box W15 (.cells #[.int .u8 4, .int .u8 0, .int .u8 0, .int .u8 0, .int .u8 0] 5 (0, 0))
    refine (read4 _ _ _ (ls_new .u8 W15 [4, 0, 0, 0, 0] _ _ _ rfl 5 rfl)).mono ?_; rintro r W16 ⟨rfl, B⟩
    replace B := step_below BA B
    replace HF := Lib.hid (HF.out.below B)
    replace HR := Lib.hid (HR.out.below B)
    replace HQ := Lib.hid (HQ.out.below B)
    replace HB := Lib.hid (step_below HB.out B)
    clear B BA
    go_wp2_with fail
    have BA := below_box W16 (.cells #[.int .u8 0] 5 (0, 0))
    refine (read0 _ _ _ (ls_new .u8 W16 [0] _ _ _ rfl 1 rfl)).mono ?_; rintro r W17 ⟨rfl, B⟩
    replace B := step_below BA B
    replace HF := Lib.hid (HF.out.below B)
    replace HR := Lib.hid (HR.out.below B)
    replace HQ := Lib.hid (HQ.out.below B)
    replace HB := Lib.hid (step_below HB.out B)
    clear B BA
    have hmk24 : ∀ w, (Instr.makeSlice 22 (.int .i64 24) (.int .i64 24)).run Tryd.prog w = .ok (.slice (some ⟨w.heap.size, 0, none⟩) 24 24) (w.alloc (zo 24)) := fun w => mk_run 24 (by omega) w
    have hmk32 : ∀ w, (Instr.makeSlice 22 (.int .i64 32) (.int .i64 32)).run Tryd.prog w = .ok (.slice (some ⟨w.heap.size, 0, none⟩) 32 32) (w.alloc (zo 32)) := fun w => mk_run 32 (by omega) w
    have hmk33 : ∀ w, (Instr.makeSlice 22 (.int .i64 33) (.int .i64 33)).run Tryd.prog w = .ok (.slice (some ⟨w.heap.size, 0, none⟩) 33 33) (w.alloc (zo 33)) := fun w => mk_run 33 (by omega) w
    go_wp2_with fail
    go_cut [27, 28] (fun x q wx => ∃ a c, x = .slice a 82 c ∧ q = .int .i64 0 ∧ Hid (Below W17.heap.size W17 wx))
    case first =>
      go_region_with (go_at_call 18; first | (with_reducible refine (e82a W17).mono ?_; rintro r W18 ⟨⟨a18, c18, rfl⟩, B18⟩) | (with_reducible refine (e82b W17).mono ?_; rintro r W18 ⟨⟨a18, c18, rfl⟩, B18⟩) | trace_state)
      all_goals go_wp2_with fail
      all_goals go_meet
      all_goals exact ⟨_, _, rfl, rfl, Lib.hid B18⟩
    case rest =>
      obtain ⟨a18, c18, rfl, rfl, hB18⟩ := hcut
      replace HF := Lib.hid (HF.out.below hB18.out)
      replace HR := Lib.hid (HR.out.below hB18.out)
      replace HQ := Lib.hid (HQ.out.below hB18.out)
      replace HB := Lib.hid (step_below HB.out hB18.out)
      clear hB18
      go_wp2_with fail
      refine (entry33 _ _ _).mono ?_; rintro r W19 ⟨rfl, B⟩
      replace B := step_below (zo_below wc 33) B
      replace HF := Lib.hid (HF.out.below B)
      replace HR := Lib.hid (HR.out.below B)
      replace HQ := Lib.hid (HQ.out.below B)
      replace HB := Lib.hid (step_below HB.out B)
      clear B
      go_wp2_with fail
      have BA := below_box W19 (.cells #[.int .u8 0, .int .u8 2, .int .u8 5] 5 (0, 0))
      refine (split025 _ _ _ (ls_new .u8 W19 [0, 2, 5] _ _ _ rfl 3 rfl)).mono ?_; rintro r W20 ⟨x20, y20, x21, y21, rfl, B⟩
      replace B := step_below BA B
      replace HF := Lib.hid (HF.out.below B)
      replace HR := Lib.hid (HR.out.below B)
      replace HQ := Lib.hid (HQ.out.below B)
      replace HB := Lib.hid (step_below HB.out B)
      clear B BA
      go_wp2_with fail
      have BA := below_box W20 (.cells #[.int .u8 0, .int .u8 1] 5 (0, 0))
      refine (split01 _ _ _ (ls_new .u8 W20 [0, 1] _ _ _ rfl 2 rfl)).mono ?_; rintro r W21 ⟨x22, y22, x23, y23, rfl, B⟩
      replace B := step_below BA B
      replace HF := Lib.hid (HF.out.below B)
      replace HR := Lib.hid (HR.out.below B)
      replace HQ := Lib.hid (HQ.out.below B)
      replace HB := Lib.hid (step_below HB.out B)
      clear B BA
      go_wp2_with (go_at_call 12; refine (num_law _ _).mono ?_; rintro r w' ⟨rfl, rfl⟩)
      refine (HR.out.same HF.out c4 3).mono ?_; rintro r W22 ⟨rfl, B⟩
      replace HF := Lib.hid (HF.out.below B)
      replace HR := Lib.hid (HR.out.below B)
      replace HQ := Lib.hid (HQ.out.below B)
      replace HB := Lib.hid (step_below HB.out B)
      clear B
      go_wp2_with (first | (go_at_call 12; refine (num_law _ _).mono ?_; rintro r w' ⟨rfl, rfl⟩) | (go_at_call 21; first | (with_reducible refine (my32 _ _ _).mono ?_; rintro r w' ⟨rfl, rfl⟩) | (with_reducible refine (my33 _ _ _).mono ?_; rintro r w' ⟨rfl, rfl⟩) | (with_reducible refine (my0 _ _ _).mono ?_; rintro r w' ⟨rfl, rfl⟩)))
      refine (samenil _ _ _).mono ?_; rintro r W23 ⟨rfl, B⟩
      replace B := step_below (step_below (step_below (zo_below W22 32) (zo_below _ 33)) (below_box _ _)) B
      replace HF := Lib.hid (HF.out.below B)
      replace HR := Lib.hid (HR.out.below B)
      replace HQ := Lib.hid (HQ.out.below B)
      replace HB := Lib.hid (step_below HB.out B)
      clear B
      go_wp2_with fail
      refine (HF.out.same4 HS.out.1 HS.out.2 HQ.out 3 c14).mono ?_; rintro r W24 ⟨rfl, B⟩
      replace HF := Lib.hid (HF.out.below B)
      replace HR := Lib.hid (HR.out.below B)
      replace HQ := Lib.hid (HQ.out.below B)
      replace HB := Lib.hid (step_below HB.out B)
      clear B
      go_wp2_with fail
      refine (known_law _).mono ?_; rintro r W25 ⟨rfl, B⟩
      replace HB := Lib.hid (step_below HB.out B)
      clear B
      go_wp2_with fail
      go_ret
      exact ⟨rfl, HB.out⟩
end Go.Proofs.YtkgcbhpgkcfkhaaDoor
