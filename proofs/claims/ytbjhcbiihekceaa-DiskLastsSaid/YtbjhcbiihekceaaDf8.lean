/- Disks of the document: Append. -/
import Derived.Test.YtbjhcbiihekceaaDf7
namespace Go.Proofs.Ytbjhcbiihekceaa
open Go.ChangeShapes Go.WideShapes Go.ChangeAt Go.RowKit Go.Maps
set_option linter.unusedVariables false
set_option linter.unusedSimpArgs false
theorem rused_any {w : World} {q room : Nat} {L : List Fil} {a : Option Addr} {cap : Nat} (h : RDk w q room L a cap) (hl : L.length ≤ 64) (hu : (L.map fun f => f.bs.length).sum ≤ 1048576) (n : Nat) : Calls Try.prog 56 #[.pointer (some ⟨q, 0, none⟩)] (w.drewN n) fun e w' => e = .returned (.int .i64 ((L.map fun f => f.bs.length).sum : Nat)) ∧ ∃ n, w' = w.drewN n :=
  (rused_dk (h.below (below_drewN (Below.refl _ _) n)) hl hu).mono fun e w' ⟨a, b⟩ => ⟨a, n, b.symm⟩
theorem set_same {W : World} {B i : Nat} {cs : Array Value} {t : TypeId} {v : Value} (h : BoxC W B cs t) (hi : cs[i]? = some v) : W.setCell ⟨B, i, none⟩ v = W := by
  obtain ⟨hlt, hk⟩ := Array.getElem?_eq_some_iff.1 (show W.heap[B]? = _ from h)
  have e : (W.setCell ⟨B, i, none⟩ v).heap = W.heap := by
    apply Array.ext_getElem?
    intro k
    by_cases hB : B = k
    · subst hB
      have h2 := BoxC.put i v h
      rw [show (W.setCell ⟨B, i, none⟩ v).heap[B]? = _ from h2, show W.heap[B]? = _ from h]
      have : cs.setIfInBounds i v = cs := by
        apply Array.ext_getElem?
        intro j
        rw [Array.getElem?_setIfInBounds]
        split
        · rename_i e
          subst e
          rw [hi]; split
          · rfl
          · rename_i h3
            have := (Array.getElem?_eq_some_iff.1 hi).1
            omega
        · rfl
      rw [this]
    · exact Below.heap_setCell W ⟨B, i, none⟩ v k (fun e => hB e.symm)
  show { W with heap := (W.setCell ⟨B, i, none⟩ v).heap } = W
  rw [e]
theorem ls_q {w W : World} {ba : Option Addr} {bc q : Nat} {B : List Int} {n : Nat} {a : Option Addr} {cap : Nat} {r : Int} (h : Ls .u8 w ba bc B) (hb : BoxC w q #[.int .i64 r, .slice a n cap] 97) (o : Off (fun k => k = q) w W) : Ls .u8 W ba bc B := by
  refine ⟨fun k hk => ?_, h.nl, h.le⟩
  obtain ⟨b, off, e, hc⟩ := h.rd k hk
  refine ⟨b, off, e, (World.cell?_of_block (w := w) (o.block b (cell_lt hc) fun hq => ?_)).trans hc⟩
  have hq : b = q := hq
  subst hq
  have h2 := hb.cell (off + k)
  rw [h2] at hc
  rcases Nat.lt_or_ge (off + k) 2 with hlt | hge
  · have : off + k = 0 ∨ off + k = 1 := by omega
    rcases this with e | e <;> rw [e] at hc <;> simp at hc
  · rw [Array.getElem?_eq_none (by simpa using hge)] at hc
    cases hc
theorem own_block {w : World} {base n : Nat} {a : Option Addr} {cap : Nat} {xs : List Value} (h : w.ownsRow base 5 1 (.slice a n cap) n xs) : ∀ b, a = some b → base ≤ b.block ∧ b.block < w.heap.size := fun b e => by
  obtain ⟨a', cap', e2, _, _, _, h5⟩ := own_cells h
  injection e2 with e3
  have := h5 b (e3 ▸ e)
  exact ⟨this.1, this.2.1⟩
theorem appE_at {room : Nat} {C : List CF} {s : ByteArray} {n : Nat} (hm : mayB s = true) (h1 : ¬ room < cSum C + n) (h2 : ¬ ((cFind C s).isNone = true ∧ C.length = 64)) : appE room C s n = 0 := by
  unfold appE; rw [if_neg (by rw [hm]; simp), if_neg h1, if_neg h2]
set_option maxRecDepth 8192 in
set_option maxHeartbeats 4000000 in
/-- Append (48). -/
theorem r_append {w : World} {q room : Nat} {C : List CF} {O : Nat → Prop} (h : RDC w q room C O) (hf : Fine room C) (s : ByteArray) (hs : s.size ≤ maxLen) (ba : Option Addr) (bn bc : Nat) (B : List Int) (hBn : B.length = bn) (hbn : bn ≤ 1099511627776) (hLs : Ls .u8 w ba bc B) :
    Calls Try.prog 48 #[.pointer (some ⟨q, 0, none⟩), .string s, .slice ba bn bc] w fun e w' => e = .returned (.int .i64 (appE room C s bn)) ∧ AftR w w' q room (appC room C s B) O := by
  obtain ⟨L, a, cap, hr, rfl, hO⟩ := h
  have H := Lib.hid hr
  have HO := Lib.hid hO
  have hl := len_fine hf
  have HA := Lib.hid hf.apart
  have HN := Lib.hid (nm_fine hf)
  have HLN := Lib.hid (fun f hm => len_fine2 hf (f := f) hm)
  have HBN := Lib.hid hBn
  have HB := Lib.hid hLs
  obtain ⟨U, hU⟩ : ∃ U, (L.map fun f => f.bs.length).sum = U := ⟨_, rfl⟩
  have HSU := Lib.hid (show cSum (L.map core) = U by rw [← sum_core]; exact hU)
  have hUr : U ≤ room := by rw [← HSU.out]; exact hf.used
  have hbig := hf.big
  have HK := Lib.hid (fun w' (b : Below w.heap.size w w') => AftR.keep ⟨L, a, cap, hr, rfl, hO⟩ b)
  have HUS := Lib.hid (fun n => by have := rused_any hr hl (by omega) n; rwa [hU] at this : ∀ n, Calls Try.prog 56 #[.pointer (some ⟨q, 0, none⟩)] (w.drewN n) fun e w' => e = .returned (.int .i64 (U : Nat)) ∧ ∃ n, w' = w.drewN n)
  obtain ⟨V, hV⟩ : ∃ V, room - U = V := ⟨_, rfl⟩
  have hv : (room : Int) - (U : Int) = (V : Int) := by omega
  have c0 := hr.c0
  have c1 := hr.c1
  obtain ⟨n, hn⟩ : ∃ n, L.length = n := ⟨_, rfl⟩
  have HNL := Lib.hid hn
  rw [hn] at c1 hl
  have HF0 := Lib.hid (show ∀ e, appE room (L.map core) s bn = e → e ≠ 0 → appC room (L.map core) s B = L.map core from fun e he hne => by unfold appC; rw [hBn, he, if_neg hne])
  clear hr hO hf hBn hLs hU hn
  go_enter Try.func48, Try.ntmps48
  go_wp2_with fail
  refine (rask_law H.out (by rw [HNL.out]; exact hl) s hs).mono ?_
  rintro e w' ⟨⟨r, E, rfl, hA⟩, rfl⟩
  rcases hA with ⟨h1, rfl, rfl⟩ | ⟨h1, h2, rfl, rfl⟩ | ⟨h1, i, f, h2, h3, rfl, rfl⟩
  · have HE := Lib.hid (show appE room (L.map core) s bn = 2 by unfold appE; rw [if_pos h1])
    go_wp2
    go_ret
    exact ⟨by rw [HE.out]; rfl, by rw [HF0.out 2 HE.out (by decide)]; exact HK.out w (Below.refl _ _)⟩
  · have HNO := Lib.hid (show cFind (L.map core) s = none from cFind_none.2 fun c hc => by
      obtain ⟨f, hf, rfl⟩ := List.mem_map.1 hc
      exact h2 f hf)
    have HM := Lib.hid h1
    have H2 := Lib.hid h2
    clear h1 h2
    by_cases hfull : V < bn
    · have HE := Lib.hid (show appE room (L.map core) s bn = 5 by unfold appE; rw [if_neg (by rw [HM.out]; simp), if_pos (by rw [HSU.out]; omega)])
      have d1 : (V : Int) < (bn : Int) := by omega
      go_wp2
      go_quiet (exact HUS.out _)
      go_wp2
      go_ret
      exact ⟨by rw [HE.out]; rfl, by rw [HF0.out 5 HE.out (by decide)]; exact HK.out _ (below_drewN (Below.refl _ _) _)⟩
    · have d1 : ¬ (V : Int) < (bn : Int) := by omega
      by_cases h64 : n = 64
      · have HE := Lib.hid (show appE room (L.map core) s bn = 5 by unfold appE; rw [if_neg (by rw [HM.out]; simp), if_neg (by rw [HSU.out]; omega), if_pos ⟨by rw [HNO.out]; rfl, by rw [List.length_map, HNL.out]; exact h64⟩])
        have d2 : (n : Int) = 64 := by omega
        go_wp2
        go_quiet (exact HUS.out _)
        go_wp2
        go_ret
        exact ⟨by rw [HE.out]; rfl, by rw [HF0.out 5 HE.out (by decide)]; exact HK.out _ (below_drewN (Below.refl _ _) _)⟩
      · have HE := Lib.hid (appE_at (room := room) (C := L.map core) (n := bn) HM.out (by rw [HSU.out]; omega) (fun h => h64 (by have := h.2; rwa [List.length_map, HNL.out] at this)))
        have d2 : ((n : Int) == 64) = false := by simp; omega
        go_wp2
        go_quiet (exact HUS.out _)
        have hbW := below_drewN (Below.refl w.heap.size w) nq
        generalize w.drewN nq = W1 at hbW ⊢
        obtain ⟨W2, hW2⟩ : ∃ W2, W1.alloc (.cells #[.string s, .slice none 0 0, .int .i64 0] 111) = W2 := ⟨_, rfl⟩
        have hb2 : Below W1.heap.size W1 W2 := by rw [← hW2]; exact bl1 _ _
        have hbx : BoxC W2 W1.heap.size #[.string s, .slice none 0 0, .int .i64 0] 111 := by rw [← hW2]; exact BoxC.new _ _ _
        have x1 : W2.cell? ⟨W1.heap.size, 1, none⟩ = some (.slice none 0 0) := hbx.cell 1
        have x0 : W2.cell? ⟨W1.heap.size, 0, none⟩ = some (.string s) := hbx.cell 0
        have x2 : W2.cell? ⟨W1.heap.size, 2, none⟩ = some (.int .i64 0) := hbx.cell 2
        have z1 := hbx.frozen 1
        have z2 := hbx.frozen 2
        have s1 := set_same (i := 1) (v := .slice none 0 0) hbx rfl
        have s2 := set_same (i := 2) (v := .int .i64 0) hbx rfl
        have BX := Lib.hid hbx
        have HB2 := Lib.hid (step_below hbW hb2)
        have HB9 := Lib.hid (show w.heap.size ≤ W1.heap.size from hbW.size)
        have HOB := Lib.hid (show ∀ k, ROwn q a L k → k = W1.heap.size → False from fun k hk e => by have := H.out.lt hk; have := hbW.size; omega)
        have HBL := Lib.hid (HB.out.below (step_below hbW hb2))
        have HQ := Lib.hid H.out.box.lt
        have HOF2 := Lib.hid (Off.of (S := fun k => k = q) (step_below hbW hb2))
        have HC := Lib.hid (show appC room (L.map core) s B = cIns (core ⟨s, ([] : List Int) ++ B, none, 0, 0⟩) (L.map core) by
          unfold appC cOld
          rw [HBN.out, HE.out, if_pos rfl, HNO.out]
          show cIns _ (cDel s (L.map core)) = _
          rw [cDel_none HNO.out]; rfl)
        have HW1 := Lib.hid hbW.size
        have H12 := Lib.hid hb2.size
        have hb20 : 0 + bn ≤ 1048576 := by omega
        clear hbx hb2 hbW d1 d2 c0 c1 h64 hfull hv hV
        go_wp2_with (first
          | (at_builtin; refine append_ls eltB rfl (.const (.slice none 0 0)) (.tmp 53) rfl W2.heap.size (.slice none 0 0) 0 [] rfl (own_nil _ _) none 0 0 ([] : List Int) rfl rfl (Ls.nul _ _) (by omega) (Nat.le_refl _) ?_; intro v1 X1 ho1 hg1; have HO1 := Lib.hid (show X1.ownsRow W2.heap.size 5 1 v1 0 (iv .u8 ([] : List Int)) by simpa using ho1); have HX1 := Lib.hid ((Below.refl W2.heap.size W2).grown hg1 (Nat.le_refl _) (fun j hj => by cases hj)); clear ho1 hg1)
          | (at_builtin; refine append_ls eltB rfl (.tmp 54) (.tmp 55) rfl W2.heap.size v1 0 (iv .u8 ([] : List Int)) rfl HO1.out ba bc bn B HBN.out rfl (HBL.out.below HX1.out) (by omega) HX1.out.size ?_; intro v2 X2 ho2 hg2; have hx2 := HX1.out.grown hg2 HX1.out.size (fun j hj => own_ge HO1.out hj); rw [← iv_append] at ho2; replace ho2 : X2.ownsRow W2.heap.size 5 1 v2 bn (iv .u8 (([] : List Int) ++ B)) := (by first | exact ho2 | (rw [Nat.zero_add] at ho2; exact ho2)); obtain ⟨a2, cap2, rfl, hls2, hga2⟩ := own_ls ho2 (show (([] : List Int) ++ B).length = bn by rw [List.length_append, HBN.out]; simp); have by2 := BX.out.below hx2; have z1' : X2.frozen? ⟨W1.heap.size, 1, none⟩ = false := by2.frozen 1; have y1' : X2.cell? ⟨W1.heap.size, 1, none⟩ = some (.slice none 0 0) := by2.cell 1; obtain ⟨X3, hX3⟩ : ∃ X3, X2.setCell ⟨W1.heap.size, 1, none⟩ (.slice a2 (bn) cap2) = X3 := ⟨_, rfl⟩; have b3 := by2.put 1 (.slice a2 (bn) cap2); have o3 : Off (fun k => k = W1.heap.size) X2 (X2.setCell ⟨W1.heap.size, 1, none⟩ (.slice a2 (bn) cap2)) := Off.set (S := fun k => k = W1.heap.size) (Off.refl _ X2) ⟨W1.heap.size, 1, none⟩ rfl _; rw [hX3] at b3 o3; have u0 : X3.cell? ⟨W1.heap.size, 0, none⟩ = some (.string s) := b3.cell 0; have u1 : X3.cell? ⟨W1.heap.size, 1, none⟩ = some (.slice a2 (bn) cap2) := b3.cell 1; have u2 : X3.cell? ⟨W1.heap.size, 2, none⟩ = some (.int .i64 0) := b3.cell 2; have HX2 := Lib.hid hx2; have HO3 := Lib.hid o3; have HLS2 := Lib.hid hls2; have HG2 := Lib.hid (own_block ho2); clear hx2 ho2 hg2 hls2 hga2 by2 b3 o3))
        have hb9 := HB9.out
        have hrd3 := ((H.out.below HB2.out).below HX2.out).off HO3.out (fun k hk e => HOB.out k hk e)
        have hls3 : Ls .u8 X3 a2 cap2 (([] : List Int) ++ B) := HLS2.out.any HO3.out (fun b e hk => by have hk : b.block = W1.heap.size := hk; have := HG2.out b e; have := BX.out.lt; omega)
        have had3 : ∀ b, a2 = some b → q < b.block ∧ b.block < X3.heap.size := fun b e => ⟨by have := HG2.out b e; have := HQ.out; have := HOF2.out.size; omega, Nat.lt_of_lt_of_le (HG2.out b e).2 HO3.out.size⟩
        have hp := rput_law hrd3 (by rw [HNL.out]; exact hl) ⟨s, ([] : List Int) ++ B, a2, cap2, 0⟩ hls3 had3
        have hlx : (([] : List Int) ++ B).length = bn := by rw [List.length_append, HBN.out]; simp
        replace hp : Calls Try.prog 98 #[.pointer (some ⟨q, 0, none⟩), .agg #[.string s, .slice a2 (bn) cap2, .int .i64 0]] X3 (fun e w' => e = .returned (.tuple #[]) ∧ PutEnd X3 w' q room L ⟨s, ([] : List Int) ++ B, a2, cap2, 0⟩) := by rw [← hlx]; exact hp
        refine hp.mono ?_
        rintro e w5 ⟨rfl, hpe⟩
        have HPE := Lib.hid hpe
        clear hpe hp hrd3 hls3 had3
        go_wp2
        go_ret
        have hfp := fin_put (a' := a) (O := O) (B := w.heap.size) HPE.out hs (fun f hf => ⟨(HN.out f hf).2.1, H2.out f hf⟩) (fun k hk => Or.inl (HO.out k hk)) (fun b e => Or.inr (by have := HG2.out b e; have := HOF2.out.size; show w.heap.size ≤ b.block; omega)) (Nat.le_trans HOF2.out.size (Nat.le_trans HX2.out.size HO3.out.size))
        refine ⟨by rw [HE.out]; rfl, ?_⟩
        rw [HC.out]
        exact ⟨hfp.1, ((HOF2.out.then HX2.out).unseen HO3.out (fun k hk e => by have e : k = W1.heap.size := e; have := HW1.out; omega)).trans hfp.2⟩
  · have HM := Lib.hid h1
    have hhi : decide ((i : Int) < 0) = false := decide_eq_false (by omega)
    have hge : (0 : Int) ≤ (i : Int) := by omega
    have HFI := Lib.hid h2
    have H3 := Lib.hid h3
    have hfm := List.mem_of_getElem? h2
    have HOLD := Lib.hid (old_at HA.out h2 h3)
    have HNM := Lib.hid (td_ne HA.out h2)
    have HFM := Lib.hid hfm
    have hfu : f.bs.length ≤ U := by
      have := le_sum hfm
      rw [sum_core, HSU.out] at this
      exact this
    clear h1 h2 h3 hfm
    by_cases hfull : V < bn
    · have HE := Lib.hid (show appE room (L.map core) s bn = 5 by unfold appE; rw [if_neg (by rw [HM.out]; simp), if_pos (by rw [HSU.out]; omega)])
      have d1 : (V : Int) < (bn : Int) := by omega
      go_wp2
      go_quiet (exact HUS.out _)
      go_wp2
      go_ret
      exact ⟨by rw [HE.out]; rfl, by rw [HF0.out 5 HE.out (by decide)]; exact HK.out _ (below_drewN (Below.refl _ _) _)⟩
    · have d1 : ¬ (V : Int) < (bn : Int) := by omega
      have HE := Lib.hid (appE_at (room := room) (C := L.map core) (n := bn) HM.out (by rw [HSU.out]; omega) (fun h => by have := h.1; rw [HOLD.out.1] at this; cases this))
      go_wp2
      go_quiet (exact HUS.out _)
      have hbW := below_drewN (Below.refl w.heap.size w) nq
      generalize w.drewN nq = W1 at hbW ⊢
      obtain ⟨Wb, hWb⟩ : ∃ Wb, W1.alloc (.cells #[.string s, .slice none 0 0, .int .i64 0] 111) = Wb := ⟨_, rfl⟩
      have hb2 : Below W1.heap.size W1 Wb := by rw [← hWb]; exact bl1 _ _
      have hbx : BoxC Wb W1.heap.size #[.string s, .slice none 0 0, .int .i64 0] 111 := by rw [← hWb]; exact BoxC.new _ _ _
      have z1 := hbx.frozen 1
      have z2 := hbx.frozen 2
      have x1 : Wb.cell? ⟨W1.heap.size, 1, none⟩ = some (.slice none 0 0) := hbx.cell 1
      have x2 : Wb.cell? ⟨W1.heap.size, 2, none⟩ = some (.int .i64 0) := hbx.cell 2
      have s1 := set_same (i := 1) (v := .slice none 0 0) hbx rfl
      have s2 := set_same (i := 2) (v := .int .i64 0) hbx rfl
      have BXb := Lib.hid hbx
      have HBb := Lib.hid (step_below hbW hb2)
      have HW1 := Lib.hid hbW.size
      have HB9 := Lib.hid (show w.heap.size ≤ W1.heap.size from hbW.size)
      have HQ := Lib.hid H.out.box.lt
      have hb20 : f.bs.length + bn ≤ 1048576 := by omega
      have HOUT := Lib.hid (rout_law (H.out.below (step_below hbW hb2)) (by rw [HNL.out]; exact hl) i f HFI.out)
      clear hbx hb2 hbW d1 c0 c1 hfull hv hV
      go_wp2_with fail
      refine HOUT.out.mono ?_
      rintro e w3 ⟨rfl, ⟨a', cap', hr3, hg3⟩, hoff3⟩
      have hqb : q ≠ W1.heap.size := by have := HQ.out; have := HW1.out; omega
      have hb3 := hoff3.box BXb.out (fun e => hqb e.symm)
      have t0 : w3.cell? ⟨W1.heap.size, 0, none⟩ = some (.string s) := hb3.cell 0
      have t1 : w3.cell? ⟨W1.heap.size, 1, none⟩ = some (.slice none 0 0) := hb3.cell 1
      have t2 : w3.cell? ⟨W1.heap.size, 2, none⟩ = some (.int .i64 0) := hb3.cell 2
      have g0 := hb3.frozen 0
      have g1 := hb3.frozen 1
      have g2 := hb3.frozen 2
      obtain ⟨W2, hW2⟩ : ∃ W2, ((w3.setCell ⟨W1.heap.size, 0, none⟩ (.string f.nm)).setCell ⟨W1.heap.size, 1, none⟩ (.slice f.ad f.bs.length f.cap)).setCell ⟨W1.heap.size, 2, none⟩ (.int .i64 f.last) = W2 := ⟨_, rfl⟩
      have o2 : Off (fun k => k = W1.heap.size) w3 W2 := by rw [← hW2]; exact (((Off.refl _ w3).set (S := fun k => k = W1.heap.size) ⟨W1.heap.size, 0, none⟩ rfl _).set ⟨W1.heap.size, 1, none⟩ rfl _).set ⟨W1.heap.size, 2, none⟩ rfl _
      have hbx2 : BoxC W2 W1.heap.size #[.string f.nm, .slice f.ad f.bs.length f.cap, .int .i64 f.last] 111 := by rw [← hW2]; exact ((hb3.put 0 _).put 1 _).put 2 _
      have x0 : W2.cell? ⟨W1.heap.size, 0, none⟩ = some (.string f.nm) := hbx2.cell 0
      have x1' : W2.cell? ⟨W1.heap.size, 1, none⟩ = some (.slice f.ad f.bs.length f.cap) := hbx2.cell 1
      have x2' : W2.cell? ⟨W1.heap.size, 2, none⟩ = some (.int .i64 f.last) := hbx2.cell 2
      have BX := Lib.hid hbx2
      have hob : ∀ k, ROwn q a' (L.take i ++ L.drop (i + 1)) k → k = W1.heap.size → False := fun k hk e => by
        have hlt := BXb.out.lt
        rcases hk with rfl | ⟨g, e2, rfl⟩ | ⟨x, hx, b, e2, rfl⟩
        · exact hqb e
        · have := hg3 g e2; omega
        · have := ((H.out.rows x (td_mem x hx)).2 b e2).2; have := HW1.out; omega
      have HOB := Lib.hid hob
      have HRD := Lib.hid (hr3.off o2 (fun k hk e => hob k hk e))
      have HOFa := HBb.out
      have HOF2 := Lib.hid (((Off.of (S := fun k => k = q) HBb.out).trans hoff3).unseen o2 (fun k hk e => by have e : k = W1.heap.size := e; have := HW1.out; omega))
      have HBL := Lib.hid (ls_q HB.out H.out.box HOF2.out)
      have HLF := Lib.hid (show Ls .u8 W2 f.ad f.cap f.bs from (H.out.rows f HFM.out).1.any HOF2.out (fun b e hk => by have hk : b.block = q := hk; have := ((H.out.rows f HFM.out).2 b e).1; omega))
      have HOM := Lib.hid (out_own (B := w.heap.size) (M := L.take i ++ L.drop (i + 1)) HO.out td_mem (fun g e => Nat.le_trans (HBb.out.size) (hg3 g e)))
      have HC := Lib.hid (show appC room (L.map core) s B = cIns (core ⟨f.nm, f.bs ++ B, none, 0, f.last⟩) ((L.take i ++ L.drop (i + 1)).map core) by
        unfold appC
        rw [HBN.out, HE.out, if_pos rfl, HOLD.out.2, out_at HA.out HFI.out, ← H3.out]; rfl)
      clear hob hr3 hg3 hoff3 hb3 o2 hbx2 HOFa
      go_wp2_with (first
        | (at_builtin; refine append_ls eltB rfl (.const (.slice none 0 0)) (.tmp 53) rfl W2.heap.size (.slice none 0 0) 0 [] rfl (own_nil _ _) f.ad f.cap f.bs.length f.bs rfl rfl HLF.out (by omega) (Nat.le_refl _) ?_; intro v1 X1 ho1 hg1; have HO1 := Lib.hid (show X1.ownsRow W2.heap.size 5 1 v1 f.bs.length (iv .u8 f.bs) by simpa using ho1); have HX1 := Lib.hid ((Below.refl W2.heap.size W2).grown hg1 (Nat.le_refl _) (fun j hj => by cases hj)); clear ho1 hg1)
        | (at_builtin; refine append_ls eltB rfl (.tmp 54) (.tmp 55) rfl W2.heap.size v1 f.bs.length (iv .u8 f.bs) rfl HO1.out ba bc bn B HBN.out rfl (HBL.out.below HX1.out) (by omega) HX1.out.size ?_; intro v2 X2 ho2 hg2; have hx2 := HX1.out.grown hg2 HX1.out.size (fun j hj => own_ge HO1.out hj); rw [← iv_append] at ho2; replace ho2 : X2.ownsRow W2.heap.size 5 1 v2 (f.bs.length + bn) (iv .u8 (f.bs ++ B)) := (by first | exact ho2 | (rw [Nat.zero_add] at ho2; exact ho2)); obtain ⟨a2, cap2, rfl, hls2, hga2⟩ := own_ls ho2 (show (f.bs ++ B).length = (f.bs.length + bn) by rw [List.length_append, HBN.out]); have by2 := BX.out.below hx2; have z1' : X2.frozen? ⟨W1.heap.size, 1, none⟩ = false := by2.frozen 1; have y1' : X2.cell? ⟨W1.heap.size, 1, none⟩ = some (.slice f.ad f.bs.length f.cap) := by2.cell 1; obtain ⟨X3, hX3⟩ : ∃ X3, X2.setCell ⟨W1.heap.size, 1, none⟩ (.slice a2 ((f.bs.length + bn)) cap2) = X3 := ⟨_, rfl⟩; have b3 := by2.put 1 (.slice a2 ((f.bs.length + bn)) cap2); have o3 : Off (fun k => k = W1.heap.size) X2 (X2.setCell ⟨W1.heap.size, 1, none⟩ (.slice a2 ((f.bs.length + bn)) cap2)) := Off.set (S := fun k => k = W1.heap.size) (Off.refl _ X2) ⟨W1.heap.size, 1, none⟩ rfl _; rw [hX3] at b3 o3; have u0 : X3.cell? ⟨W1.heap.size, 0, none⟩ = some (.string f.nm) := b3.cell 0; have u1 : X3.cell? ⟨W1.heap.size, 1, none⟩ = some (.slice a2 ((f.bs.length + bn)) cap2) := b3.cell 1; have u2 : X3.cell? ⟨W1.heap.size, 2, none⟩ = some (.int .i64 f.last) := b3.cell 2; have HX2 := Lib.hid hx2; have HO3 := Lib.hid o3; have HLS2 := Lib.hid hls2; have HG2 := Lib.hid (own_block ho2); clear hx2 ho2 hg2 hls2 hga2 by2 b3 o3))
      have hb9 := HB9.out
      have hrd3 := (HRD.out.below HX2.out).off HO3.out (fun k hk e => HOB.out k hk e)
      have hls3 : Ls .u8 X3 a2 cap2 (f.bs ++ B) := HLS2.out.any HO3.out (fun b e hk => by have hk : b.block = W1.heap.size := hk; have := HG2.out b e; have := BX.out.lt; omega)
      have had3 : ∀ b, a2 = some b → q < b.block ∧ b.block < X3.heap.size := fun b e => ⟨by have := HG2.out b e; have := HQ.out; have := HOF2.out.size; omega, Nat.lt_of_lt_of_le (HG2.out b e).2 HO3.out.size⟩
      have hp := rput_law hrd3 (by have := HNL.out; rw [List.length_append, List.length_take, List.length_drop]; omega) ⟨f.nm, f.bs ++ B, a2, cap2, f.last⟩ hls3 had3
      have hlx : (f.bs ++ B).length = (f.bs.length + bn) := by rw [List.length_append, HBN.out]
      replace hp : Calls Try.prog 98 #[.pointer (some ⟨q, 0, none⟩), .agg #[.string f.nm, .slice a2 ((f.bs.length + bn)) cap2, .int .i64 f.last]] X3 (fun e w' => e = .returned (.tuple #[]) ∧ PutEnd X3 w' q room (L.take i ++ L.drop (i + 1)) ⟨f.nm, f.bs ++ B, a2, cap2, f.last⟩) := by rw [← hlx]; exact hp
      refine hp.mono ?_
      rintro e w5 ⟨rfl, hpe⟩
      have HPE := Lib.hid hpe
      clear hpe hp hrd3 hls3 had3
      go_wp2
      go_ret
      have hfp := fin_put (a' := a') (O := O) (B := w.heap.size) HPE.out (H3.out ▸ hs) (fun g hg => ⟨(HN.out g (td_mem g hg)).2.1, HNM.out g hg⟩) HOM.out (fun b e => Or.inr (by have := HG2.out b e; have := HOF2.out.size; show w.heap.size ≤ b.block; omega)) (Nat.le_trans HOF2.out.size (Nat.le_trans HX2.out.size HO3.out.size))
      refine ⟨by rw [HE.out]; rfl, ?_⟩
      rw [HC.out]
      exact ⟨hfp.1, ((HOF2.out.then HX2.out).unseen HO3.out (fun k hk e => by have e : k = W1.heap.size := e; have := HW1.out; omega)).trans hfp.2⟩
end Go.Proofs.Ytbjhcbiihekceaa
