/- Disks of the document: Sync, Append. -/
import Derived.Test.YtbjhcbiihekceaaDf6
namespace Go.Proofs.Ytbjhcbiihekceaa
open Go.ChangeShapes Go.WideShapes Go.ChangeAt Go.RowKit Go.Maps
set_option linter.unusedVariables false
set_option linter.unusedSimpArgs false
/-- Behind put. -/
theorem fin_put {w5 w' : World} {q room : Nat} {M : List Fil} {x : Fil} {a' : Option Addr} {O : Nat → Prop} {B : Nat} (h : PutEnd w5 w' q room M x) (hx : x.nm.size ≤ maxLen) (hn : ∀ f ∈ M, f.nm.size ≤ maxLen ∧ f.nm ≠ x.nm) (hO : ∀ k, ROwn q a' M k → O k ∨ B ≤ k) (hxo : ∀ b, x.ad = some b → O b.block ∨ B ≤ b.block) (hB : B ≤ w5.heap.size) :
    RDC w' q room (cIns (core x) (M.map core)) (fun k => O k ∨ B ≤ k) ∧ Off (fun k => k = q) w5 w' := by
  obtain ⟨⟨k, a2, cap2, h1, h2, h3⟩, h4⟩ := h
  refine ⟨⟨_, a2, cap2, h2, put_at h1 hx hn, fun j hj => ?_⟩, h4⟩
  rcases hj with rfl | ⟨g, e, rfl⟩ | ⟨f, hf, b, e, rfl⟩
  · exact hO _ (Or.inl rfl)
  · exact Or.inr (Nat.le_trans hB (h3 g e))
  · rcases tk_mem f hf with rfl | hf
    · exact hxo b e
    · exact hO _ (Or.inr (Or.inr ⟨f, hf, b, e, rfl⟩))
theorem nm_fine {room : Nat} {L : List Fil} (hf : Fine room (L.map core)) : ∀ f ∈ L, mayB f.nm = true ∧ f.nm.size ≤ maxLen ∧ Byt f.bs ∧ f.last ≤ f.bs.length := fun f hm => by
  obtain ⟨h1, h2, h3⟩ := hf.each (core f) (List.mem_map.2 ⟨f, hm, rfl⟩)
  exact ⟨h1, may_size h1, h2, h3⟩
theorem td_ne {L : List Fil} {i : Nat} {f : Fil} (hp : (L.map core).Pairwise (fun c d => c.1 ≠ d.1)) (h : L[i]? = some f) : ∀ g ∈ L.take i ++ L.drop (i + 1), g.nm ≠ f.nm := fun g hg e => by
  have h1 : core g ∈ cDel f.nm (L.map core) := by rw [← out_at hp h]; exact List.mem_map.2 ⟨g, hg, rfl⟩
  exact (mem_cDel.1 h1).2 e
theorem len_fine2 {room : Nat} {L : List Fil} (hf : Fine room (L.map core)) {f : Fil} (hm : f ∈ L) : f.bs.length ≤ 1048576 := by
  have h1 := hf.used
  rw [← sum_core] at h1
  exact Nat.le_trans (le_sum hm) (Nat.le_trans h1 hf.big)
set_option maxHeartbeats 1000000 in
/-- Sync (49). -/
theorem r_sync {w : World} {q room : Nat} {C : List CF} {O : Nat → Prop} (h : RDC w q room C O) (hf : Fine room C) (s : ByteArray) (hs : s.size ≤ maxLen) :
    Calls Try.prog 49 #[.pointer (some ⟨q, 0, none⟩), .string s] w fun e w' => e = .returned (.int .i64 (oneE C s)) ∧ AftR w w' q room (syncC C s) O := by
  obtain ⟨L, a, cap, hr, rfl, hO⟩ := h
  have H := Lib.hid hr
  have HO := Lib.hid hO
  have hl := len_fine hf
  have HA := Lib.hid hf.apart
  have HN := Lib.hid (nm_fine hf)
  have HLN := Lib.hid (fun f hm => len_fine2 hf (f := f) hm)
  have HK := Lib.hid (fun w' (b : Below w.heap.size w w') => AftR.keep ⟨L, a, cap, hr, rfl, hO⟩ b)
  clear hr hO hf
  go_enter Try.func49, Try.ntmps49
  go_wp2_with fail
  refine (rask_law H.out hl s hs).mono ?_
  rintro e w' ⟨⟨r, E, rfl, hA⟩, rfl⟩
  have HE := Lib.hid (ask_one hA)
  rcases hA with ⟨h1, rfl, rfl⟩ | ⟨h1, h2, rfl, rfl⟩ | ⟨h1, i, f, h2, h3, rfl, rfl⟩
  · have e2 : oneE (L.map core) s = 2 := by have := HE.out; omega
    have HC := Lib.hid (show syncC (L.map core) s = L.map core by unfold syncC; rw [e2]; rfl)
    clear e2
    go_wp2
    go_ret
    exact ⟨by rw [HE.out]; rfl, by rw [HC.out]; exact HK.out w (Below.refl _ _)⟩
  · have e6 : oneE (L.map core) s = 6 := by have := HE.out; omega
    have HC := Lib.hid (show syncC (L.map core) s = L.map core by unfold syncC; rw [e6]; rfl)
    clear e6 h2
    go_wp2
    go_ret
    exact ⟨by rw [HE.out]; rfl, by rw [HC.out]; exact HK.out w (Below.refl _ _)⟩
  · have e0 : oneE (L.map core) s = 0 := by have := HE.out; omega
    have HC := Lib.hid (show syncC (L.map core) s = cIns (core { f with last := f.bs.length }) ((L.take i ++ L.drop (i + 1)).map core) by
      unfold syncC
      rw [e0, if_pos rfl, (old_at HA.out h2 h3).2, out_at HA.out h2, ← h3]; rfl)
    have HO2 := Lib.hid (rout_law H.out hl i f h2)
    have HF := Lib.hid h2
    have HNM := Lib.hid (td_ne HA.out h2)
    have hfl := HLN.out f (List.mem_of_getElem? h2)
    clear e0 h2 h3
    go_wp2_with fail
    refine HO2.out.mono ?_
    rintro e w1 ⟨rfl, ⟨a', cap', hr1, hg1⟩, hoff⟩
    have HR := Lib.hid hr1
    have HG := Lib.hid hg1
    have HOF := Lib.hid hoff
    obtain ⟨W4, hW4⟩ : ∃ W4, w1.alloc (.cells #[.string f.nm, .slice f.ad f.bs.length f.cap, .int .i64 (f.bs.length : Nat)] 111) = W4 := ⟨_, rfl⟩
    have hb4 : Below w1.heap.size w1 W4 := by rw [← hW4]; exact bl1 _ _
    have HB4 := Lib.hid hb4
    have hbx : BoxC W4 w1.heap.size #[.string f.nm, .slice f.ad f.bs.length f.cap, .int .i64 (f.bs.length : Nat)] 111 := by rw [← hW4]; exact BoxC.new _ _ _
    have x0 : W4.cell? ⟨w1.heap.size, 0, none⟩ = some (.string f.nm) := hbx.cell 0
    have x1 : W4.cell? ⟨w1.heap.size, 1, none⟩ = some (.slice f.ad f.bs.length f.cap) := hbx.cell 1
    have x2 : W4.cell? ⟨w1.heap.size, 2, none⟩ = some (.int .i64 (f.bs.length : Nat)) := hbx.cell 2
    have hfm := List.mem_of_getElem? HF.out
    have hrow := H.out.rows f hfm
    have hlsx : Ls .u8 W4 f.ad f.cap f.bs := (hrow.1.any hoff fun b e => by have := (hrow.2 b e).1; omega).below hb4
    have hadx : ∀ b, f.ad = some b → q < b.block ∧ b.block < W4.heap.size := fun b e => ⟨(hrow.2 b e).1, Nat.lt_of_lt_of_le (hrow.2 b e).2 (Nat.le_trans hoff.size hb4.size)⟩
    have HP := Lib.hid (rput_law (hr1.below hb4) (by have := hl; rw [List.length_append, List.length_take, List.length_drop]; omega) { f with last := f.bs.length } hlsx hadx)
    have HAD := Lib.hid hadx
    have HXO := Lib.hid (fun b (e : f.ad = some b) => HO.out _ (Or.inr (Or.inr ⟨f, hfm, b, e, rfl⟩)))
    clear hr1 hg1 hoff hb4 hfm hrow hlsx hadx hbx
    go_wp2_with fail
    refine HP.out.mono ?_
    rintro e w5 ⟨rfl, hpe⟩
    have HPE := Lib.hid hpe
    clear hpe
    go_wp2
    go_ret
    refine ⟨by rw [HE.out]; rfl, ?_⟩
    have := fin_put (a' := a') (O := O) (B := w.heap.size) HPE.out (HN.out f (List.mem_of_getElem? HF.out)).2.1 (fun g hg => ⟨(HN.out g (td_mem g hg)).2.1, HNM.out g hg⟩) (out_own HO.out td_mem HG.out) (fun b e => Or.inl (HXO.out b e)) (Nat.le_trans HOF.out.size HB4.out.size)
    rw [HC.out]
    exact ⟨this.1, (HOF.out.then HB4.out).trans this.2⟩
end Go.Proofs.Ytbjhcbiihekceaa
