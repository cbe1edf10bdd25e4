/- Disks: a file cut, while a range over the files is under way. -/
import Derived.Test.YtbjhcbiihekceaaDc4
namespace Go.Proofs.Ytbjhcbiihekceaa
open Go.ChangeShapes Go.WideShapes Go.ChangeAt Go.RowKit Go.Maps
set_option linter.unusedVariables false
set_option linter.unusedSimpArgs false
/-- The first bytes of a file, all of which last. -/
def cutF (f : Fil) (m : Nat) : Fil := { f with bs := f.bs.take m, cap := m, last := m }
theorem cut_len {f : Fil} {m : Nat} (hm : m ≤ f.bs.length) : (cutF f m).bs.length = m := by
  show (f.bs.take m).length = m
  rw [List.length_take]; omega
theorem cut_v {f : Fil} {m : Nat} (hm : m ≤ f.bs.length) : (cutF f m).v = fv f.ad m m m := by
  unfold Fil.v
  rw [cut_len hm]
  rfl
theorem cut_blk (f : Fil) (m : Nat) (W : World) (h : RowAt W f) (hm : m ≤ f.bs.length) : (cutF f m).blk = none ∨ (cutF f m).blk = f.blk := by
  by_cases h0 : m = 0
  · left; unfold Fil.blk cutF; simp [h0]
  · right
    have hc : f.cap ≠ 0 := by have := h.ls.le; omega
    unfold Fil.blk cutF
    simp [h0, hc]
theorem cut_row {W : World} {f : Fil} (h : RowAt W f) {m : Nat} (hm : m ≤ f.bs.length) : RowAt W (cutF f m) := by
  by_cases h0 : m = 0
  · subst h0
    exact Or.inl ⟨rfl, by show f.bs.take 0 = []; simp⟩
  · rcases h with ⟨h1, h2⟩ | ⟨hc, g, cur, ha, hg, h1, h2, h3, h4⟩
    · rw [h2] at hm; simp at hm; omega
    · refine Or.inr ⟨by show 0 < m; omega, g, cur, ha, hg, by rw [cut_len hm]; exact Nat.le_refl _, by show m ≤ cur.size; omega, by show m ≤ maxLen; omega, ?_⟩
      rw [cut_len hm]
      have := congrArg (List.take m) h4
      rw [List.take_take, Nat.min_eq_left hm] at this
      rw [this]
      show (iv .u8 f.bs).take m = iv .u8 (f.bs.take m)
      simp [iv, List.map_take]
theorem Dk.cut {W : World} {p bm room : Nat} {L : List Fil} (h : Dk W p bm room L) {f : Fil} (hf : f ∈ L) {m : Nat} (hm : m ≤ f.bs.length) : Fls room (putL (cutF f m) L) := by
  have hl := cut_len hm
  refine h.ok.put (cutF f m) (fun g hg => ?_) (h.ok.nms f hf) (Byt.take (h.ok.byt f hf) m) (by rw [hl]; exact Nat.le_refl _) ?_ (Nat.le_trans (len_del_mem (f := f) hf) h.ok.few)
  · have hg' := mem_delL.1 hg
    rcases cut_blk f m W (h.rows f hf) hm with e | e
    · exact Or.inl e
    · rw [e]; exact h.ok.ap (f := f) hf hg'.1 hg'.2
  · rw [hl]
    have h1 := sum_del_mem (f := f) hf
    have h2 := h.ok.used
    show ((delL f.nm L).map fun f => f.bs.length).sum + m ≤ room
    omega
theorem crash_step {W : World} {p bm room r n cnt : Nat} {L : List Fil} {left : Lit → Bool} (hd : Dk W p bm room L) (hrg : W.ranges Try.prog 9 RF bm r n (dOf L) left cnt) (hn : n < maxLen) {f : Fil} (hf : f ∈ L) {m : Nat} (hm : m ≤ f.bs.length) :
    ∃ w8, (Instr.mapUpdate 92 (.map (some bm)) (.string f.nm) (.agg #[.slice f.ad m m, .int .i64 m])).run Try.prog W = .ok () w8 ∧ w8.ranges Try.prog 9 RF bm r n (dOf (putL (cutF f m) L)) left cnt ∧ Off (fun k => k = bm) W w8 ∧ Dk w8 p bm room (putL (cutF f m) L) := by
  have hs := may_size (hd.ok.nms f hf)
  have hhas : Maps.has (dOf L) (.string f.nm.data.toList) = true := by
    rw [has_dOf, look, List.find?_isSome]
    exact ⟨f, hf, by simp⟩
  obtain ⟨w8, hrun, hr8, hg⟩ := ranges_store hrg law9 Try.underlying92 hn (key_of f.nm hs) hhas (RF_fv f.ad m m m)
  have e : (dOf L).put (.string f.nm.data.toList) (.held (fv f.ad m m m)) = dOf (putL (cutF f m) L) := by rw [← put_dOf, cut_v hm]; rfl
  rw [e] at hr8
  have hoff : Off (fun k => k = bm) W w8 := Off.of_map hg rfl
  exact ⟨w8, hrun, hr8, hoff, hd.turn hr8.owns hoff (hd.cut hf hm) fun g hg => by
    rcases mem_putL.1 hg with rfl | hg
    · exact cut_row (hd.rows f hf) hm
    · exact hd.rows g hg.1⟩
end Go.Proofs.Ytbjhcbiihekceaa
