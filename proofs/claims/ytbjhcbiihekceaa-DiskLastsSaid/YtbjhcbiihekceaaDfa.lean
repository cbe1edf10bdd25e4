/- Disks of the document: Rename. -/
import Derived.Test.YtbjhcbiihekceaaDf9
namespace Go.Proofs.Ytbjhcbiihekceaa
open Go.ChangeShapes Go.WideShapes Go.ChangeAt Go.RowKit Go.Maps
set_option linter.unusedVariables false
set_option linter.unusedSimpArgs false
theorem cIns_rise : ∀ {C : List CF} {c : CF}, C.Pairwise (fun c d => bytesBefore c.1.data.toList d.1.data.toList = true) → c.1.size ≤ maxLen → (∀ d ∈ C, d.1.size ≤ maxLen ∧ d.1 ≠ c.1) → (cIns c C).Pairwise (fun c d => bytesBefore c.1.data.toList d.1.data.toList = true)
  | [], c, _, _, _ => by simp [cIns]
  | g :: r, c, hp, hc, hn => by
    obtain ⟨h1, h2⟩ := List.pairwise_cons.1 hp
    show List.Pairwise _ (if (skey c.1).before (skey g.1) then c :: g :: r else g :: cIns c r)
    by_cases hb : (skey c.1).before (skey g.1) = true
    · rw [if_pos hb]
      refine List.pairwise_cons.2 ⟨fun x hx => ?_, hp⟩
      rcases List.mem_cons.1 hx with rfl | hx
      · exact hb
      · exact bytes_trans _ _ _ hb (h1 x hx)
    · rw [if_neg hb]
      refine List.pairwise_cons.2 ⟨fun x hx => ?_, cIns_rise h2 hc fun d hd => hn d (by simp [hd])⟩
      rcases mem_cIns.1 hx with rfl | hx
      · have hg := hn g (by simp)
        rcases bb_total hg.1 hc hg.2 with e | e
        · exact e
        · exact absurd e hb
      · exact h1 x hx
/-- A name that stays. -/
theorem ren_self {room : Nat} {C : List CF} (hf : Fine room C) {c : CF} (h : cFind C c.1 = some c) : cPut c (cDel c.1 C) = C := by
  have hm := (cFind_some h).1
  have hr : (cPut c (cDel c.1 C)).Pairwise (fun c d => bytesBefore c.1.data.toList d.1.data.toList = true) := by
    unfold cPut
    refine cIns_rise ((hf.rise.sublist (List.filter_sublist)).sublist (List.filter_sublist)) (may_size (hf.each c hm).1) fun d hd => ?_
    have := mem_cDel.1 hd
    exact ⟨may_size (hf.each d (mem_cDel.1 this.1).1).1, this.2⟩
  refine sorted_ext (R := fun c d : CF => bytesBefore c.1.data.toList d.1.data.toList = true) cf_irr (fun a b c h1 h2 => bytes_trans _ _ _ h1 h2) hr hf.rise fun x => ?_
  rw [mem_cPut, mem_cDel]
  constructor
  · rintro (rfl | ⟨⟨h1, _⟩, _⟩)
    · exact hm
    · exact h1
  · intro hx
    by_cases e : x.1 = c.1
    · left
      apply Classical.byContradiction
      intro hne
      exact pair_of (fun h => Ne.symm h) hf.apart hx hm hne e
    · exact Or.inr ⟨⟨hx, e⟩, e⟩
set_option maxRecDepth 8192 in
set_option maxHeartbeats 4000000 in
/-- Rename (50). -/
theorem r_rename {w : World} {q room : Nat} {C : List CF} {O : Nat → Prop} (h : RDC w q room C O) (hf : Fine room C) (s to : ByteArray) (hs : s.size ≤ maxLen) (ht : to.size ≤ maxLen) :
    Calls Try.prog 50 #[.pointer (some ⟨q, 0, none⟩), .string s, .string to] w fun e w' => e = .returned (.int .i64 (renE C s to)) ∧ AftR w w' q room (renC C s to) O := by
  obtain ⟨L, a, cap, hr, rfl, hO⟩ := h
  have H := Lib.hid hr
  have HO := Lib.hid hO
  have hl := len_fine hf
  have HFN := Lib.hid hf
  have HA := Lib.hid hf.apart
  have HN := Lib.hid (nm_fine hf)
  have HK := Lib.hid (fun w' (b : Below w.heap.size w w') => AftR.keep ⟨L, a, cap, hr, rfl, hO⟩ b)
  obtain ⟨n, hn⟩ : ∃ n, L.length = n := ⟨_, rfl⟩
  have HNL := Lib.hid hn
  rw [hn] at hl
  clear hr hO hf hn
  go_enter Try.func50, Try.ntmps50
  go_wp2_with fail
  refine (rask_law H.out (by rw [HNL.out]; exact hl) s hs).mono ?_
  rintro e w' ⟨⟨r, E, rfl, hA⟩, rfl⟩
  rcases hA with ⟨h1, rfl, rfl⟩ | ⟨h1, h2, rfl, rfl⟩ | ⟨h1, i, f, h2, h3, rfl, rfl⟩
  · have HE := Lib.hid (show renE (L.map core) s to = 2 by unfold renE; rw [if_pos (Or.inl h1)])
    have HC := Lib.hid (show renC (L.map core) s to = L.map core by unfold renC; rw [HE.out]; rfl)
    clear h1
    go_wp2
    go_ret
    exact ⟨by rw [HE.out]; rfl, by rw [HC.out]; exact HK.out w (Below.refl _ _)⟩
  · cases ht2 : mayB to with
    | false =>
      have HM := Lib.hid ht2
      have HE := Lib.hid (show renE (L.map core) s to = 2 by unfold renE; rw [if_pos (Or.inr ht2)])
      have HC := Lib.hid (show renC (L.map core) s to = L.map core by unfold renC; rw [HE.out]; rfl)
      clear h1 h2 ht2
      go_wp2_with (go_at_call 28; refine (rmay_law to ht w).mono ?_; rintro e w' ⟨rfl, rfl⟩; rw [HM.out])
      go_ret
      exact ⟨by rw [HE.out]; rfl, by rw [HC.out]; exact HK.out w (Below.refl _ _)⟩
    | true =>
      have HM := Lib.hid ht2
      have hnone : cFind (L.map core) s = none := cFind_none.2 fun c hc => by
        obtain ⟨f, hf, rfl⟩ := List.mem_map.1 hc
        exact h2 f hf
      have HE := Lib.hid (show renE (L.map core) s to = 6 by unfold renE; rw [if_neg (by rw [h1, ht2]; simp), if_pos (by rw [hnone]; rfl)])
      clear hnone
      have HC := Lib.hid (show renC (L.map core) s to = L.map core by unfold renC; rw [HE.out]; rfl)
      clear h1 h2 ht2
      go_wp2_with (go_at_call 28; refine (rmay_law to ht w).mono ?_; rintro e w' ⟨rfl, rfl⟩; rw [HM.out])
      go_ret
      exact ⟨by rw [HE.out]; rfl, by rw [HC.out]; exact HK.out w (Below.refl _ _)⟩
  · cases ht2 : mayB to with
    | false =>
      have HM := Lib.hid ht2
      have HE := Lib.hid (show renE (L.map core) s to = 2 by unfold renE; rw [if_pos (Or.inr ht2)])
      have HC := Lib.hid (show renC (L.map core) s to = L.map core by unfold renC; rw [HE.out]; rfl)
      clear h1 h2 h3 ht2
      go_wp2_with (go_at_call 28; refine (rmay_law to ht w).mono ?_; rintro e w' ⟨rfl, rfl⟩; rw [HM.out])
      go_ret
      exact ⟨by rw [HE.out]; rfl, by rw [HC.out]; exact HK.out w (Below.refl _ _)⟩
    | true =>
      have HM := Lib.hid ht2
      have HOLD := Lib.hid (old_at HA.out h2 h3)
      have HE := Lib.hid (show renE (L.map core) s to = 0 by unfold renE; rw [if_neg (by rw [h1, ht2]; simp), if_neg (by rw [HOLD.out.1]; simp)])
      have H3 := Lib.hid h3
      have HFI := Lib.hid h2
      have HFM := Lib.hid (List.mem_of_getElem? h2)
      clear h1 h2 h3 ht2
      by_cases he : s = to
      · have d1 : (s.toList == to.toList) = true := by rw [str_eq, decide_eq_true he]
        have HC := Lib.hid (show renC (L.map core) s to = L.map core by
          unfold renC
          rw [HE.out, if_pos rfl, HOLD.out.2, ← he, ← H3.out]
          have := ren_self HFN.out (c := core f) (by rw [show (core f).1 = s from H3.out]; exact HOLD.out.1)
          exact this)
        clear he
        go_wp2_with (go_at_call 28; refine (rmay_law to ht w).mono ?_; rintro e w' ⟨rfl, rfl⟩; rw [HM.out])
        go_ret
        exact ⟨by rw [HE.out]; rfl, by rw [HC.out]; exact HK.out w (Below.refl _ _)⟩
      have d1 : (s.toList == to.toList) = false := by rw [str_eq, decide_eq_false he]
      have HOUT := Lib.hid (rout_law H.out (by rw [HNL.out]; exact hl) i f HFI.out)
      have HCD := Lib.hid (out_at HA.out HFI.out)
      clear he
      go_wp2_with fail
      refine (rmay_law to ht w).mono ?_
      rintro e w' ⟨rfl, rfl⟩
      rw [HM.out]
      go_wp2_with fail
      refine HOUT.out.mono ?_
      rintro e w3 ⟨rfl, ⟨a', cap', hr3, hg3⟩, hoff3⟩
      obtain ⟨W4, hW4⟩ : ∃ W4, w3.alloc (.cells #[.string f.nm, .slice f.ad f.bs.length f.cap, .int .i64 f.last] 111) = W4 := ⟨_, rfl⟩
      have hb4 : Below w3.heap.size w3 W4 := by rw [← hW4]; exact bl1 _ _
      have hbx : BoxC W4 w3.heap.size #[.string f.nm, .slice f.ad f.bs.length f.cap, .int .i64 f.last] 111 := by rw [← hW4]; exact BoxC.new _ _ _
      have HR4 := Lib.hid (hr3.below hb4)
      have HW3 := Lib.hid hoff3.size
      have HOFa := Lib.hid (hoff3.then hb4)
      have HOB4 := Lib.hid (show ∀ k, ROwn q a' (L.take i ++ L.drop (i + 1)) k → k = w3.heap.size → False from fun k hk e => by have := hr3.lt hk; omega)
      have HOM := Lib.hid (out_own (B := w.heap.size) (M := L.take i ++ L.drop (i + 1)) HO.out td_mem hg3)
      have HLM := Lib.hid (show (L.take i ++ L.drop (i + 1)).length ≤ 64 by rw [List.length_append, List.length_take, List.length_drop, HNL.out]; omega)
      have BX := Lib.hid hbx
      have HFD := Lib.hid (rfind_law HR4.out HLM.out to)
      have HAM := Lib.hid (show ((L.take i ++ L.drop (i + 1)).map core).Pairwise (fun c d => c.1 ≠ d.1) by rw [HCD.out]; exact HA.out.sublist List.filter_sublist)
      have HG3 := Lib.hid hg3
      clear hr3 hg3 hoff3 hb4 hbx
      go_wp2_with fail
      refine HFD.out.mono ?_
      rintro e w' ⟨⟨r, rfl, hFI⟩, rfl⟩
      clear hW4
      rcases hFI with ⟨j, g, hj1, hj2, rfl⟩ | ⟨hj1, rfl⟩
      · have HO2 := Lib.hid (rout_law HR4.out HLM.out j g hj1)
        have HC := Lib.hid (show renC (L.map core) s to = cIns (core { f with nm := to }) (cDel to ((L.take i ++ L.drop (i + 1)).map core)) by
          unfold renC
          rw [HE.out, if_pos rfl, HOLD.out.2, HCD.out, H3.out]; rfl)
        have HCM2 := Lib.hid (show ((L.take i ++ L.drop (i + 1)).take j ++ (L.take i ++ L.drop (i + 1)).drop (j + 1)).map core = cDel to ((L.take i ++ L.drop (i + 1)).map core) by rw [out_at HAM.out hj1, hj2])
        have HNM2 := Lib.hid (show ∀ x ∈ (L.take i ++ L.drop (i + 1)).take j ++ (L.take i ++ L.drop (i + 1)).drop (j + 1), x.nm ≠ to from fun x hx => by rw [← hj2]; exact td_ne HAM.out hj1 x hx)
        have hge : (0 : Int) ≤ (j : Int) := by omega
        clear hj1 hj2
        go_wp2_with fail
        refine HO2.out.mono ?_
        rintro e w5 ⟨rfl, ⟨a5, cap5, hr5, hg5⟩, hoff5⟩
        have BXW := hoff5.box BX.out (fun e => by have e : w3.heap.size = q := e; have := H.out.box.lt; have := HW3.out; omega)
        have HR5 := Lib.hid (And.intro hr5 hg5)
        have HOFb := Lib.hid hoff5
        have HOB5 := Lib.hid (show ∀ k, ROwn q a5 ((L.take i ++ L.drop (i + 1)).take j ++ (L.take i ++ L.drop (i + 1)).drop (j + 1)) k → k = w3.heap.size → False from fun k hk e => by
          rcases hk with rfl | ⟨g', e2, rfl⟩ | ⟨x, hx, b, e2, rfl⟩
          · have := H.out.box.lt; have := HW3.out; omega
          · have := hg5 g' e2; have := BX.out.lt; omega
          · exact HOB4.out _ (Or.inr (Or.inr ⟨x, td_mem x hx, b, e2, rfl⟩)) e)
        have HOM5 := Lib.hid (show ∀ k, ROwn q a5 ((L.take i ++ L.drop (i + 1)).take j ++ (L.take i ++ L.drop (i + 1)).drop (j + 1)) k → O k ∨ w.heap.size ≤ k from fun k hk => by
          rcases hk with rfl | ⟨g', e2, rfl⟩ | ⟨x, hx, b, e2, rfl⟩
          · exact Or.inl (HO.out _ (Or.inl rfl))
          · right; have := hg5 g' e2; have := BX.out.lt; have := HW3.out; omega
          · exact HOM.out _ (Or.inr (Or.inr ⟨x, td_mem x hx, b, e2, rfl⟩)))
        clear hr5 hg5 hoff5
        have z0 : w5.frozen? ⟨w3.heap.size, 0, none⟩ = false := BXW.frozen 0
        have y0 : w5.cell? ⟨w3.heap.size, 0, none⟩ = some (.string f.nm) := BXW.cell 0
        obtain ⟨X3, hX3⟩ : ∃ X3, w5.setCell ⟨w3.heap.size, 0, none⟩ (.string to) = X3 := ⟨_, rfl⟩
        have b3 : BoxC X3 w3.heap.size #[.string to, .slice f.ad f.bs.length f.cap, .int .i64 f.last] 111 := by rw [← hX3]; exact BXW.put 0 _
        have o3 : Off (fun k => k = w3.heap.size) w5 X3 := by rw [← hX3]; exact Off.set (S := fun k => k = w3.heap.size) (Off.refl _ _) ⟨w3.heap.size, 0, none⟩ rfl _
        have u0 : X3.cell? ⟨w3.heap.size, 0, none⟩ = some (.string to) := b3.cell 0
        have u1 : X3.cell? ⟨w3.heap.size, 1, none⟩ = some (.slice f.ad f.bs.length f.cap) := b3.cell 1
        have u2 : X3.cell? ⟨w3.heap.size, 2, none⟩ = some (.int .i64 f.last) := b3.cell 2
        have HO3 := Lib.hid o3
        have hOF := ((HOFa.out.trans HOFb.out))
        have HOFT := Lib.hid (show Off (fun k => k = q) w X3 from hOF.unseen o3 (fun k hk e => by have e : k = w3.heap.size := e; have := HW3.out; omega))
        have hrd3 := HR5.out.1.off o3 (fun k hk e => by have e : k = w3.heap.size := e; exact HOB5.out k hk e)
        have hls3 : Ls .u8 X3 f.ad f.cap f.bs := (H.out.rows f HFM.out).1.any HOFT.out (fun b e hk => by have hk : b.block = q := hk; have := ((H.out.rows f HFM.out).2 b e).1; omega)
        have had3 : ∀ b, f.ad = some b → q < b.block ∧ b.block < X3.heap.size := fun b e => ⟨((H.out.rows f HFM.out).2 b e).1, Nat.lt_of_lt_of_le ((H.out.rows f HFM.out).2 b e).2 HOFT.out.size⟩
        have HP := Lib.hid (rput_law hrd3 (by have := HNL.out; have h1 := HLM.out; rw [List.length_append, List.length_take, List.length_drop]; omega) { f with nm := to } hls3 had3)
        clear o3 hOF hrd3 hls3 had3 b3
        go_wp2_with fail
        refine HP.out.mono ?_
        rintro e w9 ⟨rfl, hpe⟩
        have HPE := Lib.hid hpe
        clear hpe
        go_wp2
        go_ret
        have hfp := fin_put (a' := a5) (O := O) (B := w.heap.size) HPE.out ht (fun g hg => ⟨(HN.out g (td_mem g (td_mem g hg))).2.1, HNM2.out g hg⟩) HOM5.out (fun b e => Or.inl (HO.out _ (Or.inr (Or.inr ⟨f, HFM.out, b, e, rfl⟩)))) HOFT.out.size
        refine ⟨by rw [HE.out]; rfl, ?_⟩
        rw [HC.out]
        exact ⟨by rw [HCM2.out] at hfp; exact hfp.1, HOFT.out.trans hfp.2⟩

      · have HC := Lib.hid (show renC (L.map core) s to = cIns (core { f with nm := to }) (cDel to ((L.take i ++ L.drop (i + 1)).map core)) by
          unfold renC
          rw [HE.out, if_pos rfl, HOLD.out.2, HCD.out, H3.out]; rfl)
        have HCM2 := Lib.hid (show (L.take i ++ L.drop (i + 1)).map core = cDel to ((L.take i ++ L.drop (i + 1)).map core) from (cDel_none (cFind_none.2 fun c hc => by
          obtain ⟨x, hx, rfl⟩ := List.mem_map.1 hc
          exact hj1 x hx)).symm)
        have HNM2 := Lib.hid hj1
        have BXW := BX.out
        clear hj1
        have z0 : W4.frozen? ⟨w3.heap.size, 0, none⟩ = false := BXW.frozen 0
        have y0 : W4.cell? ⟨w3.heap.size, 0, none⟩ = some (.string f.nm) := BXW.cell 0
        obtain ⟨X3, hX3⟩ : ∃ X3, W4.setCell ⟨w3.heap.size, 0, none⟩ (.string to) = X3 := ⟨_, rfl⟩
        have b3 : BoxC X3 w3.heap.size #[.string to, .slice f.ad f.bs.length f.cap, .int .i64 f.last] 111 := by rw [← hX3]; exact BXW.put 0 _
        have o3 : Off (fun k => k = w3.heap.size) W4 X3 := by rw [← hX3]; exact Off.set (S := fun k => k = w3.heap.size) (Off.refl _ _) ⟨w3.heap.size, 0, none⟩ rfl _
        have u0 : X3.cell? ⟨w3.heap.size, 0, none⟩ = some (.string to) := b3.cell 0
        have u1 : X3.cell? ⟨w3.heap.size, 1, none⟩ = some (.slice f.ad f.bs.length f.cap) := b3.cell 1
        have u2 : X3.cell? ⟨w3.heap.size, 2, none⟩ = some (.int .i64 f.last) := b3.cell 2
        have HO3 := Lib.hid o3
        have hOF := HOFa.out
        have HOFT := Lib.hid (show Off (fun k => k = q) w X3 from hOF.unseen o3 (fun k hk e => by have e : k = w3.heap.size := e; have := HW3.out; omega))
        have hrd3 := HR4.out.off o3 (fun k hk e => by have e : k = w3.heap.size := e; exact HOB4.out k hk e)
        have hls3 : Ls .u8 X3 f.ad f.cap f.bs := (H.out.rows f HFM.out).1.any HOFT.out (fun b e hk => by have hk : b.block = q := hk; have := ((H.out.rows f HFM.out).2 b e).1; omega)
        have had3 : ∀ b, f.ad = some b → q < b.block ∧ b.block < X3.heap.size := fun b e => ⟨((H.out.rows f HFM.out).2 b e).1, Nat.lt_of_lt_of_le ((H.out.rows f HFM.out).2 b e).2 HOFT.out.size⟩
        have HP := Lib.hid (rput_law hrd3 (by have := HLM.out; omega) { f with nm := to } hls3 had3)
        clear o3 hOF hrd3 hls3 had3 b3
        go_wp2_with fail
        refine HP.out.mono ?_
        rintro e w9 ⟨rfl, hpe⟩
        have HPE := Lib.hid hpe
        clear hpe
        go_wp2
        go_ret
        have hfp := fin_put (a' := a') (O := O) (B := w.heap.size) HPE.out ht (fun g hg => ⟨(HN.out g (td_mem g hg)).2.1, HNM2.out g hg⟩) HOM.out (fun b e => Or.inl (HO.out _ (Or.inr (Or.inr ⟨f, HFM.out, b, e, rfl⟩)))) HOFT.out.size
        refine ⟨by rw [HE.out]; rfl, ?_⟩
        rw [HC.out]
        exact ⟨by rw [HCM2.out] at hfp; exact hfp.1, HOFT.out.trans hfp.2⟩

end Go.Proofs.Ytbjhcbiihekceaa
