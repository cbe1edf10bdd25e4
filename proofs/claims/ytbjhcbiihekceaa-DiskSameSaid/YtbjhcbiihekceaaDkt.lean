/- Disks: bytes put behind a file's. -/
import Derived.Test.YtbjhcbiihekceaaDks
namespace Go.Proofs.Ytbjhcbiihekceaa
open Go.ChangeShapes Go.WideShapes Go.ChangeAt Go.RowKit Go.Maps
set_option linter.unusedVariables false
set_option linter.unusedSimpArgs false
/-- A file with more bytes, which lie elsewhere, maybe. -/
def moreF (f : Fil) (B : List Int) (ad : Option Addr) (cap : Nat) : Fil := { f with bs := f.bs ++ B, ad := ad, cap := cap }
theorem row_at {w : World} {f : Fil} (g cap : Nat) (cur : Array Value) (hc : 0 < cap) (ha : f.ad = some ⟨g, 0, none⟩) (he : f.cap = cap) (hg : w.heap[g]? = some (.cells cur 5 (0, 0))) (h1 : f.bs.length ≤ cap) (h2 : cap ≤ cur.size) (h3 : cap ≤ maxLen) (h4 : cur.toList.take f.bs.length = iv .u8 f.bs) : RowAt w f ∧ f.blk = some g := by
  subst he
  refine ⟨Or.inr ⟨hc, g, cur, ha, hg, h1, h2, h3, h4⟩, ?_⟩
  unfold Fil.blk; rw [if_neg (by omega), ha]; rfl
set_option maxHeartbeats 1000000 in
theorem run_append_row (w : World) (ty : TypeId) (f : Fil) (hr : RowAt w f) (ad : Option Addr) (c m : Nat) (B : List Int) (hm : B.length = m) (hL : Ls .u8 w ad c B) (hb : f.bs.length + m ≤ 1048576) :
    ∃ ad' cap' w', (Builtin.append_ #[34, 34] ty #[.slice f.ad f.bs.length f.cap, .slice ad m c]).run Try.prog w = .ok (.slice ad' (f.bs.length + m) cap') w' ∧ RowAt w' (moreF f B ad' cap') ∧ w.grownBy w' f.blk ∧ ((moreF f B ad' cap').blk = f.blk ∨ (moreF f B ad' cap').blk = some w.heap.size) := by
  subst hm
  obtain ⟨i0, hi, hz0, hz1, hz2⟩ := info_parts eltB.inf
  have ht := eltB.ut
  have hlen : (iv .u8 (f.bs ++ B)).length = f.bs.length + B.length := by simp [iv]
  have hle := hr.ls.le
  by_cases hm0 : B = []
  · subst hm0
    refine ⟨f.ad, f.cap, w, ?_, ?_, ⟨rfl, rfl, rfl, Nat.le_refl _, fun _ _ _ => rfl⟩, Or.inl rfl⟩
    · cases hfa : f.ad <;> cases ad <;> simp [Builtin.append_, run_underlying ht, sizeOf, typeInfo, hi, Builtin.lenOf, Builtin.firstCells, loadCells, loadCellsFrom, storeCells, hle]
    · have : moreF f [] f.ad f.cap = f := by simp [moreF]
      rw [this]; exact hr
  · have hpos : 0 < B.length := List.length_pos_iff.2 hm0
    rcases ad with _ | a
    · exact absurd (hL.nl rfl).1 hm0
    · have hnews : ∀ j u, (iv .u8 B)[j]? = some u → w.cell? (a.add j) = some u := by
        intro j u hj
        have hjl : j < B.length := by have := (List.getElem?_eq_some_iff.1 hj).1; simpa [iv] using this
        obtain ⟨b, off, e, hc⟩ := hL.rd j hjl
        cases e
        have hu : u = .int .u8 (B.getD j 0) := by
          simp [iv, hjl] at hj
          rw [← hj]; simp [List.getD, List.getElem?_eq_getElem hjl]
        rw [hu, addr_add]
        exact hc
      have hbl : (iv .u8 B).length = B.length * i0.size := by rw [hz1]; simp [iv]
      have hol : (iv .u8 f.bs).length = f.bs.length * i0.size := by rw [hz1]; simp [iv]
      have grown : ∀ (old : Nat), old < f.bs.length + B.length →
          RowAt (w.drew.alloc (.cells ((iv .u8 f.bs).toArray ++ (iv .u8 B).toArray ++ Builtin.zeroCells (Value.int .u8 0).cells (grownCap w (f.bs.length + B.length) old 5 - (f.bs.length + B.length))) 5)) (moreF f B (some ⟨w.heap.size, 0, none⟩) (grownCap w (f.bs.length + B.length) old 5)) ∧
          w.grownBy (w.drew.alloc (.cells ((iv .u8 f.bs).toArray ++ (iv .u8 B).toArray ++ Builtin.zeroCells (Value.int .u8 0).cells (grownCap w (f.bs.length + B.length) old 5 - (f.bs.length + B.length))) 5)) f.blk ∧
          (moreF f B (some ⟨w.heap.size, 0, none⟩) (grownCap w (f.bs.length + B.length) old 5)).blk = some w.heap.size := by
        intro old ho
        have hge := grownCap_ge w (f.bs.length + B.length) old 5
        have hcm : grownCap w (f.bs.length + B.length) old 5 ≤ maxLen := grownCap_le_maxLen w (f.bs.length + B.length) old 5 (by unfold maxLen; omega)
        have h := row_at (w := w.drew.alloc (.cells ((iv .u8 f.bs).toArray ++ (iv .u8 B).toArray ++ Builtin.zeroCells (Value.int .u8 0).cells (grownCap w (f.bs.length + B.length) old 5 - (f.bs.length + B.length))) 5)) (f := moreF f B (some ⟨w.heap.size, 0, none⟩) (grownCap w (f.bs.length + B.length) old 5)) w.heap.size (grownCap w (f.bs.length + B.length) old 5) _ (by omega) rfl rfl (World.alloc_heap_new w.drew _) (by simpa [moreF] using hge) (by
          simp only [Array.size_append, List.size_toArray, size_zeroCells, iv_length]
          show grownCap w (f.bs.length + B.length) old 5 ≤ _ + _ + (_ - _) * 1
          omega) hcm (by
          simp only [Array.toList_append, List.append_assoc]
          rw [← List.append_assoc, show (iv .u8 f.bs).toArray.toList ++ (iv .u8 B).toArray.toList = iv .u8 (f.bs ++ B) from by simp [iv_append], show (moreF f B (some ⟨w.heap.size, 0, none⟩) (grownCap w (f.bs.length + B.length) old 5)).bs.length = (iv .u8 (f.bs ++ B)).length from by rw [iv_length]; rfl]
          exact List.take_left)
        exact ⟨h.1, ⟨rfl, rfl, rfl, by simp, fun k hk _ => (bl1 w.drew _).block k hk⟩, h.2⟩
      rcases hfa : f.ad with _ | b
      · have hf0 := hr.ls.nl hfa
        have hn := run_append_nil (P := Try.prog) w 34 ty 5 i0 _ ht hi hz0 a B.length c (iv .u8 B) hbl hnews hpos (by omega) (by rw [hz2]; omega)
        have hg := grown 0 (by omega)
        rw [hf0.1] at hg ⊢
        rw [hf0.2]
        simp only [List.length_nil, Nat.zero_add, show (iv .u8 []).toArray = #[] from rfl, Array.empty_append] at hg ⊢
        exact ⟨_, _, _, hn, hg.1, hg.2.1, Or.inr hg.2.2⟩
      · by_cases hroom : f.bs.length + B.length ≤ f.cap
        · rcases hr with ⟨h0, _⟩ | ⟨hc0, g, cur, ha, hg, h1, h2, h3, h4⟩
          · omega
          · rw [hfa] at ha
            cases ha
            have hr := run_append_room (P := Try.prog) w 34 ty 5 i0 ht hi g f.bs.length f.cap cur hg a B.length c (iv .u8 B) hbl hnews (iv_one _ _) hroom (by rw [hz1, iv_length]; omega)
            have hk : f.blk = some g := by unfold Fil.blk; rw [if_neg (by omega), hfa]; rfl
            rw [hz1, Nat.mul_one, iv_length] at hr
            have h := row_at (w := w.setRow g (cur.toList.take f.bs.length ++ iv .u8 B ++ cur.toList.drop (f.bs.length + B.length)).toArray) (f := moreF f B (some ⟨g, 0, none⟩) f.cap) g f.cap _ hc0 rfl rfl (setRow_heap w g cur _ 5 _ hg) (by simpa [moreF] using hroom) (by
              simp only [List.size_toArray, List.length_append, List.length_take, List.length_drop, Array.length_toList, iv_length]
              omega) h3 (by
              rw [h4, ← iv_append, show (moreF f B (some ⟨g, 0, none⟩) f.cap).bs.length = (iv .u8 (f.bs ++ B)).length from by rw [iv_length]; rfl]
              exact List.take_left)
            exact ⟨_, _, _, hr, h.1, ⟨rfl, rfl, rfl, by simp, fun k _ hne => setRow_other w g k _ (fun e => hne (by rw [hk, e]))⟩, Or.inl (h.2.trans hk.symm)⟩
        · have holds : ∀ j u, (iv .u8 f.bs)[j]? = some u → w.cell? (b.add j) = some u := by
            intro j u hj
            have hjl : j < f.bs.length := by have := (List.getElem?_eq_some_iff.1 hj).1; simpa [iv] using this
            obtain ⟨b', off, e, hc⟩ := hr.ls.rd j hjl
            rw [hfa] at e
            cases e
            have hu : u = .int .u8 (f.bs.getD j 0) := by
              simp [iv, hjl] at hj
              rw [← hj]; simp [List.getD, List.getElem?_eq_getElem hjl]
            rw [hu, addr_add]
            exact hc
          have hn := run_append_grow (P := Try.prog) w 34 ty 5 i0 _ ht hi hz0 b f.bs.length f.cap (iv .u8 f.bs) hol holds a B.length c (iv .u8 B) hbl hnews (by omega) (by omega) (growslice_fits (by omega) (by rw [hz2]; omega))
          have hg := grown f.cap (by omega)
          exact ⟨_, _, _, hn, hg.1, hg.2.1, Or.inr hg.2.2⟩
end Go.Proofs.Ytbjhcbiihekceaa
