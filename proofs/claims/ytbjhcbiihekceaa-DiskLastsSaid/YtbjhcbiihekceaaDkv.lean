/- Disks: Append, where there is room. -/
import Derived.Test.YtbjhcbiihekceaaDku
namespace Go.Proofs.Ytbjhcbiihekceaa
open Go.ChangeShapes Go.WideShapes Go.ChangeAt Go.RowKit Go.Maps
set_option linter.unusedVariables false
set_option linter.unusedSimpArgs false
theorem Dk.turn2 {W w2 : World} {p bm room n n0 : Nat} {D0 : DataW Value} {L' : List Fil} (hp : BoxC W p #[.int .i64 room, .map (some bm)] 94) (hbm : W.ownsMap Try.prog 9 RF bm n0 D0) (hm : w2.ownsMap Try.prog 9 RF bm n (dOf L')) (o : Off (fun k => k = bm) W w2) (hf : Fls room L') (hr : ∀ f ∈ L', RowAt W f) (lo : 1024 ≤ room) (hi : room ≤ 1048576) : Dk w2 p bm room L' := by
  obtain ⟨es, c, hb, _⟩ := hbm
  refine ⟨o.box hp fun e => ?_, ?_, fun f hf => (hr f hf).off o fun k hk => (hr f hf).nmap hb hk, hf, lo, hi⟩
  · unfold BoxC at hp
    rw [e, hb] at hp; cases hp
  · have := ownsMap_exact hm
    rwa [size_dOf] at this
theorem RowAt.nbox {w : World} {f : Fil} (h : RowAt w f) {b : Nat} {cs : Array Value} {t : TypeId} (hb : BoxC w b cs t) (ht : t ≠ 5) : ¬ f.blk = some b := by
  intro e
  rcases h with ⟨h, _⟩ | ⟨hc, g, cur, ha, hg, r⟩
  · unfold Fil.blk at e; rw [if_pos h] at e; cases e
  · have e2 : f.blk = some g := by unfold Fil.blk; rw [if_neg (by omega), ha]; rfl
    rw [e2] at e; cases e
    unfold BoxC at hb
    rw [hg] at hb
    injection hb with hb
    injection hb with _ hb _
    exact ht hb.symm
theorem RowAt.nbox_new {w : World} {f : Fil} (h : RowAt w f) : ¬ f.blk = some w.heap.size := fun e => by have := h.lt e; omega
theorem off_grown {w w' : World} {f : Fil} (h : w.grownBy w' f.blk) : Off (fun k => f.blk = some k) w w' := ⟨h.os, h.tape, h.output, h.size, fun k hk hn => h.block k hk (fun e => hn e.symm)⟩
/-- What stands behind the append and its store. -/
theorem after_append {w w2 w3 : World} {p bm room bn : Nat} {L : List Fil} (h : Dk w p bm room L) {s : ByteArray} {f : Fil} {ok : Bool} (B : List Int) (hB : Byt B) (hBn : B.length = bn) (hf : AtF L s f ok) (hm : mayB s = true) (hu : (L.map fun f => f.bs.length).sum + bn ≤ room) (hfw : ok = false → L.length < 64)
    (hb : Below w.heap.size w w2) (hbig : w.heap.size < w2.heap.size) {ad' : Option Addr} {cap' : Nat} (hrow : RowAt w3 (moreF f B ad' cap')) (hgrow : w2.grownBy w3 f.blk) (hblk : (moreF f B ad' cap').blk = f.blk ∨ (moreF f B ad' cap').blk = some w2.heap.size)
    (hn3 : BoxC w3 w.heap.size #[.slice f.ad f.bs.length f.cap, .int .i64 f.last] 118) {b0 b1 : Nat} (h0 : BoxC w b0 #[.pointer (some ⟨p, 0, none⟩)] 23) (h1 : BoxC w b1 #[.string s] 9) :
    ∃ w5, (Instr.mapUpdate 92 (.map (some bm)) (.string s) (.agg #[.slice ad' (f.bs.length + bn) cap', .int .i64 f.last])).run Try.prog (w3.setCell ⟨w.heap.size, 0, none⟩ (.slice ad' (f.bs.length + bn) cap')).drew = .ok () w5 ∧
      Off (fun k => k = bm) (w3.setCell ⟨w.heap.size, 0, none⟩ (.slice ad' (f.bs.length + bn) cap')).drew w5 ∧ Dk w5 p bm room (putL (moreF f B ad' cap') L) ∧ Off (fun k => k = bm ∨ f.blk = some k) w w5 ∧
      ∀ W', Off (fun k => k = bm) (w3.setCell ⟨w.heap.size, 0, none⟩ (.slice ad' (f.bs.length + bn) cap')).drew W' → W'.cell? ⟨b0, 0, none⟩ = some (.pointer (some ⟨p, 0, none⟩)) ∧ W'.cell? ⟨p, 1, none⟩ = some (.map (some bm)) ∧ W'.cell? ⟨b1, 0, none⟩ = some (.string s) ∧ W'.cell? ⟨w.heap.size, 0, none⟩ = some (.slice ad' (f.bs.length + bn) cap') ∧ W'.cell? ⟨w.heap.size, 1, none⟩ = some (.int .i64 f.last) := by
  have hr := hf.row h
  have hs := may_size hm
  have o3 : Off (fun k => f.blk = some k) w w3 := (Off.of (S := fun k => f.blk = some k) hb).trans (off_grown hgrow)
  have o4 : Off (fun k => f.blk = some k) w (w3.setCell ⟨w.heap.size, 0, none⟩ (.slice ad' (f.bs.length + bn) cap')) := o3.setnew _ (Nat.le_refl _) _
  have hn4 := hn3.put 0 (.slice ad' (f.bs.length + bn) cap')
  simp only [List.setIfInBounds_toArray, List.set_cons_zero] at hn4
  obtain ⟨W4, hW4⟩ : ∃ W4, (w3.setCell ⟨w.heap.size, 0, none⟩ (.slice ad' (f.bs.length + bn) cap')).drew = W4 := ⟨_, rfl⟩
  have oS : Off (fun k => k = w.heap.size) w3 W4 := by rw [← hW4]; exact ((Off.refl (fun k => k = w.heap.size) w3).set ⟨w.heap.size, 0, none⟩ rfl _).trans (Off.of ((Below.refl _ _).drew))
  replace o4 : Off (fun k => f.blk = some k) w W4 := by rw [← hW4]; exact o4.trans (Off.of ((Below.refl _ _).drew))
  replace hn4 : BoxC W4 w.heap.size #[.slice ad' (f.bs.length + bn) cap', .int .i64 f.last] 118 := by rw [← hW4]; exact hn4
  rw [hW4]
  have hmap : W4.ownsMap Try.prog 9 RF bm L.length (dOf L) := o4.map h.map (by
    obtain ⟨es, c, hy, _⟩ := h.map
    exact fun e => hr.nmap hy e rfl)
  have hp := o4.box h.box (hr.nbox h.box (by decide))
  obtain ⟨w5, hrun, hm2, ht⟩ := hmap.store law9 Try.underlying92 (Nat.lt_of_le_of_lt h.ok.few (by decide)) (key_of s hs) (RF_fv ad' (f.bs.length + bn) cap' f.last)
  have hoff : Off (fun k => k = bm) W4 w5 := Off.of_map ht.grown rfl
  have hv : (moreF f B ad' cap').v = fv ad' (f.bs.length + bn) cap' f.last := by
    unfold Fil.v moreF
    simp only [List.length_append, hBn]
  replace hm2 : w5.ownsMap Try.prog 9 RF bm (L.length + 1) (dOf (putL (moreF f B ad' cap') L)) := by
    rw [← put_dOf, hv, show (moreF f B ad' cap').nm = s from hf.1]; exact hm2
  have nm : ∀ {b cs t}, BoxC W4 b cs t → b ≠ bm := fun {b cs t} hx e => by
    obtain ⟨es, c, hy, _⟩ := hmap
    unfold BoxC at hx
    rw [e, hy] at hx; cases hx
  have hsum := hf.sum
  have hnew : RowAt W4 (moreF f B ad' cap') := hrow.off oS fun k hk e => by
    rcases hblk with e2 | e2
    · rw [e2] at hk; have := hr.lt hk; omega
    · rw [e2] at hk; cases hk; omega
  have hfls : Fls room (putL (moreF f B ad' cap') L) := h.ok.put (moreF f B ad' cap') (fun g hg => by
      have hg' : g ∈ L ∧ g.nm ≠ s := by rw [show (moreF f B ad' cap').nm = s from hf.1] at hg; exact mem_delL.1 hg
      rcases hblk with e2 | e2
      · rw [e2]
        rcases hf.2 with ⟨_, hl⟩ | ⟨_, _, rfl⟩
        · exact h.ok.ap (look_mem hl).1 hg'.1 (by rw [hf.1]; exact hg'.2)
        · exact Or.inl rfl
      · refine Or.inr fun e3 => ?_
        rw [e2] at e3
        have := h.lt (k := w2.heap.size) (Or.inr (Or.inr ⟨g, hg'.1, e3.symm⟩))
        omega)
    (by rw [show (moreF f B ad' cap').nm = s from hf.1]; exact hm)
    (by
      refine Byt.append ?_ hB
      rcases hf.2 with ⟨_, hl⟩ | ⟨_, _, rfl⟩
      · exact h.ok.byt _ (look_mem hl).1
      · exact fun x hx => absurd hx (by simp [zeroF]))
    (by
      show f.last ≤ (f.bs ++ B).length
      rw [List.length_append]
      rcases hf.2 with ⟨_, hl⟩ | ⟨_, _, rfl⟩
      · have := h.ok.lasts _ (look_mem hl).1; omega
      · exact Nat.zero_le _)
    (by
      rw [show (moreF f B ad' cap').nm = s from hf.1, show (moreF f B ad' cap').bs.length = f.bs.length + bn from by show (f.bs ++ B).length = _; rw [List.length_append, hBn]]
      omega)
    (by
      rw [show (moreF f B ad' cap').nm = s from hf.1]
      rcases hf.2 with ⟨_, hl⟩ | ⟨hk, _, rfl⟩
      · have := len_del_mem (look_mem hl).1
        rw [hf.1] at this
        exact Nat.le_trans this h.ok.few
      · have h1 := hfw hk
        have h2 : (delL s L).length ≤ L.length := List.length_filter_le _ _
        omega)
  refine ⟨w5, hrun, hoff, Dk.turn2 hp hmap hm2 hoff hfls (fun g hg => ?_) h.lo h.hi, (o4.mono fun k e => Or.inr e).trans (hoff.mono fun k e => Or.inl e), fun W' o => ?_⟩
  · rcases mem_putL.1 hg with rfl | hg
    · exact hnew
    · refine (h.rows g hg.1).off o4 fun k hk e => ?_
      rw [show (moreF f B ad' cap').nm = s from hf.1] at hg
      rcases hf.2 with ⟨_, hl⟩ | ⟨_, _, rfl⟩
      · rcases h.ok.ap (look_mem hl).1 hg.1 (by rw [hf.1]; exact hg.2) with e3 | e3
        · rw [e3] at e; cases e
        · exact e3 (e.trans hk.symm)
      · cases e
  · have k0 := o4.box h0 (hr.nbox h0 (by decide))
    have k1 := o4.box h1 (hr.nbox h1 (by decide))
    exact ⟨(o.box k0 (nm k0)).cell 0, (o.box hp (nm hp)).cell 1, (o.box k1 (nm k1)).cell 0, (o.box hn4 (nm hn4)).cell 0, (o.box hn4 (nm hn4)).cell 1⟩
set_option maxHeartbeats 4000000 in
theorem dapp1_law {w : World} {p bm room : Nat} {L : List Fil} (h : Dk w p bm room L) (b0 b1 b2 : Nat) (s : ByteArray) (hm : mayB s = true) (ba : Option Addr) (bn bc : Nat) (B : List Int) (hBn : B.length = bn) (hB : Byt B) (hLs : Ls .u8 w ba bc B) (h0 : BoxC w b0 #[.pointer (some ⟨p, 0, none⟩)] 23) (h1 : BoxC w b1 #[.string s] 9) (h2 : BoxC w b2 #[.slice ba bn bc] 34)
    (f : Fil) (ok : Bool) (hf : AtF L s f ok) (hu : (L.map fun f => f.bs.length).sum + bn ≤ room) (hfw : ok = false → L.length < 64) :
    Calls Try.prog 68 #[.pointer (some ⟨b0, 0, none⟩), .pointer (some ⟨b1, 0, none⟩), .pointer (some ⟨b2, 0, none⟩)] w fun e w' => e = .returned (.int .i64 0) ∧ ∃ ad' cap', Dk w' p bm room (putL (moreF f B ad' cap') L) ∧ Off (fun k => k = bm ∨ f.blk = some k) w w' ∧
      ((moreF f B ad' cap').blk = f.blk ∨ ∃ k, w.heap.size ≤ k ∧ (moreF f B ad' cap').blk = some k) := by
  have HH := Lib.hid h
  have hs := may_size hm
  have FC := Lib.hid (fun W (b : Below w.heap.size w W) => (⟨(h0.below b).cell 0, (h1.below b).cell 0, (h.below b).c1, hf.run (h.below b) hs⟩ : W.cell? ⟨b0, 0, none⟩ = some (.pointer (some ⟨p, 0, none⟩)) ∧ W.cell? ⟨b1, 0, none⟩ = some (.string s) ∧ W.cell? ⟨p, 1, none⟩ = some (.map (some bm)) ∧ (Instr.lookup 92 (.map (some bm)) (.string s) true).run Try.prog W = .ok (.tuple #[.agg #[.slice f.ad f.bs.length f.cap, .int .i64 f.last], .bool ok]) W))
  have HX := Lib.hid (fun W (b : Below w.heap.size w W) => (⟨h.below b, h0.below b, h2.below b⟩ : Dk W p bm room L ∧ BoxC W b0 #[.pointer (some ⟨p, 0, none⟩)] 23 ∧ BoxC W b2 #[.slice ba bn bc] 34))
  have HSU := Lib.hid (show (L.map fun f => f.bs.length).sum ≤ 1048576 from Nat.le_trans h.ok.used h.hi)
  have HL := Lib.hid h.hi
  have HR0 := Lib.hid (hf.row h)
  have HLs := Lib.hid hLs
  have HBD := Lib.hid (show f.bs.length + bn ≤ 1048576 by have := hf.sum; have := h.hi; omega)
  have HAA := Lib.hid (fun w2 w3 ad' cap' => after_append (w2 := w2) (w3 := w3) h B hB hBn hf hm hu hfw (ad' := ad') (cap' := cap') (b0 := b0) (b1 := b1))
  have HFW := Lib.hid hfw
  have H0 := Lib.hid h0
  have H1 := Lib.hid h1
  have HM := Lib.hid hm
  have HBn := Lib.hid hBn
  clear h h0 h1 h2 hf hLs hB hBn hm hfw
  go_enter Try.func68, Try.ntmps68
  go_wp2
  refine wp_region_held_drew (S := (fun X => Below w.heap.size w X)) (by kernel_rfl) ((Below.refl _ _).drew) (fun hHeld => ?_)
  refine wpAnyH_take (i := 0) (oi := { dst := some 7, op := Op.load 23 (Operand.tmp 0), type := 23, pos := "disk.go:86", after := #[], guard := none }) (v := ?_) rfl (by kernel_rfl) (by kernel_rfl) (by kernel_rfl) (fun _ _ _ h => h) (Or.inl ⟨by rfl, ?_⟩) (by assumption) ?_
  rotate_left
  · intro W hSw; obtain ⟨a0, a1, a3, a4⟩ := FC.out W hSw; go_simp; try with_reducible rfl
  try simp only [Act.put, List.setIfInBounds_toArray, List.set_cons_zero, List.set_cons_succ]
  refine wpAnyH_take (i := 1) (oi := { dst := some 8, op := Op.nilCheck (Operand.tmp 7), type := 0, pos := "disk.go:86", after := #[{ on := 0, ground := Ground.data }], guard := none }) (v := ?_) rfl (by kernel_rfl) (by kernel_rfl) (by kernel_rfl) (fun _ _ _ h => h) (Or.inl ⟨by rfl, ?_⟩) (by assumption) ?_
  rotate_left
  · intro W hSw; go_simp; try with_reducible rfl
  try simp only [Act.put, List.setIfInBounds_toArray, List.set_cons_zero, List.set_cons_succ]
  refine wpAnyH_take (i := 2) (oi := { dst := some 9, op := Op.fieldAddr 94 (Operand.tmp 8) 1, type := 0, pos := "disk.go:86", after := #[{ on := 1, ground := Ground.data }], guard := none }) (v := ?_) rfl (by kernel_rfl) (by kernel_rfl) (by kernel_rfl) (fun _ _ _ h => h) (Or.inl ⟨by rfl, ?_⟩) (by assumption) ?_
  rotate_left
  · intro W hSw; go_simp; try with_reducible rfl
  try simp only [Act.put, List.setIfInBounds_toArray, List.set_cons_zero, List.set_cons_succ]
  refine wpAnyH_take (i := 3) (oi := { dst := some 10, op := Op.load 92 (Operand.tmp 9), type := 92, pos := "disk.go:86", after := #[{ on := 2, ground := Ground.data }], guard := none }) (v := ?_) rfl (by kernel_rfl) (by kernel_rfl) (by kernel_rfl) (fun _ _ _ h => h) (Or.inl ⟨by rfl, ?_⟩) (by assumption) ?_
  rotate_left
  · intro W hSw; obtain ⟨a0, a1, a3, a4⟩ := FC.out W hSw; go_simp; try with_reducible rfl
  try simp only [Act.put, List.setIfInBounds_toArray, List.set_cons_zero, List.set_cons_succ]
  refine wpAnyH_take (i := 4) (oi := { dst := some 11, op := Op.load 9 (Operand.tmp 1), type := 9, pos := "disk.go:86", after := #[], guard := none }) (v := ?_) rfl (by kernel_rfl) (by kernel_rfl) (by kernel_rfl) (fun _ _ _ h => h) (Or.inl ⟨by rfl, ?_⟩) (by assumption) ?_
  rotate_left
  · intro W hSw; obtain ⟨a0, a1, a3, a4⟩ := FC.out W hSw; go_simp; try with_reducible rfl
  try simp only [Act.put, List.setIfInBounds_toArray, List.set_cons_zero, List.set_cons_succ]
  refine wpAnyH_take (i := 5) (oi := { dst := some 12, op := Op.lookup 92 (Operand.tmp 10) (Operand.tmp 11) true, type := 119, pos := "disk.go:86", after := #[{ on := 3, ground := Ground.data }, { on := 4, ground := Ground.data }], guard := none }) (v := ?_) rfl (by kernel_rfl) (by kernel_rfl) (by kernel_rfl) (fun _ _ _ h => h) (Or.inl ⟨by rfl, ?_⟩) (by assumption) ?_
  rotate_left
  · intro W hSw; obtain ⟨a0, a1, a3, a4⟩ := FC.out W hSw; go_simp; try with_reducible rfl
  try simp only [Act.put, List.setIfInBounds_toArray, List.set_cons_zero, List.set_cons_succ]
  refine wpAnyH_take (i := 6) (oi := { dst := some 6, op := Op.move (Operand.tmp 12), type := 119, pos := "disk.go:86", after := #[{ on := 5, ground := Ground.data }], guard := none }) (v := ?_) rfl (by kernel_rfl) (by kernel_rfl) (by kernel_rfl) (fun _ _ _ h => h) (Or.inl ⟨by rfl, ?_⟩) (by assumption) ?_
  rotate_left
  · intro W hSw; go_simp; try with_reducible rfl
  try simp only [Act.put, List.setIfInBounds_toArray, List.set_cons_zero, List.set_cons_succ]
  refine wpAnyH_take (i := 7) (oi := { dst := some 13, op := Op.extract (Operand.tmp 6) 0, type := 118, pos := "disk.go:86", after := #[{ on := 6, ground := Ground.data }], guard := none }) (v := ?_) rfl (by kernel_rfl) (by kernel_rfl) (by kernel_rfl) (fun _ _ _ h => h) (Or.inl ⟨by rfl, ?_⟩) (by assumption) ?_
  rotate_left
  · intro W hSw; go_simp; try with_reducible rfl
  try simp only [Act.put, List.setIfInBounds_toArray, List.set_cons_zero, List.set_cons_succ]
  refine wpAnyH_take (i := 8) (oi := { dst := some 14, op := Op.extract (Operand.tmp 6) 1, type := 4, pos := "disk.go:86", after := #[{ on := 6, ground := Ground.data }, { on := 10, ground := Ground.gcOnly Departure.lateStores }], guard := none }) (v := ?_) rfl (by kernel_rfl) (by kernel_rfl) (by kernel_rfl) (fun _ _ _ h => h) (Or.inl ⟨by rfl, ?_⟩) (by assumption) ?_
  rotate_left
  · intro W hSw; go_simp; try with_reducible rfl
  try simp only [Act.put, List.setIfInBounds_toArray, List.set_cons_zero, List.set_cons_succ]
  refine wpAnyH_ready (rs := [9]) (by kernel_rfl) (by simp) ?_
  refine AllReadyH.cons (o := { dst := some 4, op := Op.alloc 118, type := 0, pos := "disk.go:86", after := #[], guard := none }) rfl (fun K hK => ?_) AllReadyH.nil
  go_simp
  refine hK.out _ _ (step_below ((Below.refl _ _).drew) (bl1 _ _)) (fun hHeldn => ?_)
  clear hK K hHeld; have hHeld := hHeldn; clear hHeldn
  try simp only [Act.put, List.setIfInBounds_toArray, List.set_cons_zero, List.set_cons_succ]
  refine wpAnyH_ready (rs := [10]) (by kernel_rfl) (by simp) ?_
  refine AllReadyH.cons (o := { dst := none, op := Op.store 118 (Operand.tmp 4) (Operand.tmp 13), type := 0, pos := "disk.go:86", after := #[{ on := 9, ground := Ground.data }, { on := 7, ground := Ground.data }, { on := 0, ground := Ground.phase }, { on := 1, ground := Ground.phase }, { on := 2, ground := Ground.phase }, { on := 3, ground := Ground.phase }, { on := 4, ground := Ground.phase }, { on := 5, ground := Ground.phase }, { on := 6, ground := Ground.phase }, { on := 7, ground := Ground.phase }, { on := 8, ground := Ground.textOnly Departure.lateStores }, { on := 9, ground := Ground.phase }], guard := none }) rfl (fun K hK => ?_) AllReadyH.nil
  go_simp
  refine hK.out _ _ (step_below ((Below.refl _ _).drew) (bl1 _ _)) (fun hHeldn => ?_)
  clear hK K hHeld; have hHeld := hHeldn; clear hHeldn
  try simp only [Act.put, List.setIfInBounds_toArray, List.set_cons_zero, List.set_cons_succ]
  refine wpAnyH_take (i := 11) (oi := { dst := some 5, op := Op.assign (Operand.tmp 14), type := 4, pos := "disk.go:86", after := #[{ on := 8, ground := Ground.data }, { on := 10, ground := Ground.chain }, { on := 0, ground := Ground.phase }, { on := 1, ground := Ground.phase }, { on := 2, ground := Ground.phase }, { on := 3, ground := Ground.phase }, { on := 4, ground := Ground.phase }, { on := 5, ground := Ground.phase }, { on := 6, ground := Ground.phase }, { on := 7, ground := Ground.phase }, { on := 8, ground := Ground.phase }, { on := 9, ground := Ground.phase }, { on := 10, ground := Ground.phase }], guard := none }) (v := ?_) rfl (by kernel_rfl) (by kernel_rfl) (by kernel_rfl) (fun _ _ _ h => h) (Or.inl ⟨by rfl, ?_⟩) (by assumption) ?_
  rotate_left
  · intro W hSw; go_simp; try with_reducible rfl
  try simp only [Act.put, List.setIfInBounds_toArray, List.set_cons_zero, List.set_cons_succ]
  refine wpAnyH_done (by kernel_rfl) ?_ _
  skip
  have HN0 : BoxC (w.alloc (.cells #[.slice f.ad f.bs.length f.cap, .int .i64 f.last] 118)).drew w.heap.size #[.slice f.ad f.bs.length f.cap, .int .i64 f.last] 118 := BoxC.new w _ _
  generalize (w.alloc (.cells #[.slice f.ad f.bs.length f.cap, .int .i64 f.last] 118)).drew = W1 at hHeld HN0 ⊢
  have HN := Lib.hid HN0
  clear HN0
  obtain ⟨sm, hsm⟩ : ∃ sm, (L.map fun f => f.bs.length).sum = sm := ⟨_, rfl⟩
  have HB := Lib.hid hHeld
  have FD := Lib.hid (fun W (b : Below W1.heap.size W1 W) => (HX.out W (step_below HB.out b)).1)
  rw [hsm] at hu HSU
  have FG := Lib.hid (fun W (b : Below W1.heap.size W1 W) => (by
    obtain ⟨x0, x1, x2⟩ := HX.out W (step_below HB.out b)
    have hl := x0.map.len Try.underlying92 3
    rw [size_dOf] at hl
    exact ⟨x1.cell 0, x2.cell 0, x0.c0, x0.c1, hl⟩ : W.cell? ⟨b0, 0, none⟩ = some (.pointer (some ⟨p, 0, none⟩)) ∧ W.cell? ⟨b2, 0, none⟩ = some (.slice ba bn bc) ∧ W.cell? ⟨p, 0, none⟩ = some (.int .i64 room) ∧ W.cell? ⟨p, 1, none⟩ = some (.map (some bm)) ∧ (Builtin.len_ #[92] 3 #[.map (some bm)]).run Try.prog W = .ok (.int .i64 L.length) W))
  have hr1 := HL.out
  have hr2 := HSU.out
  clear hHeld
  have hgt : ¬ (room : Int) < (sm : Int) + (bn : Int) := by omega
  have w0 : IntKind.i64.wrap ((sm : Int) + (bn : Int)) = (sm : Int) + (bn : Int) := by rw [IntKind.wrap_i64]; omega
  have dgt : decide ((room : Int) < (sm : Int) + (bn : Int)) = false := decide_eq_false hgt
  cases ok
  · have d64 : ((L.length : Int) == 64) = false := by have := HFW.out rfl; simp; omega
    go_wp2
    refine wp_region_held_drew (S := (fun X => Below W1.heap.size W1 X)) (by kernel_rfl) ((Below.refl _ _).drew) (fun hHeld => ?_)
    refine wpAnyH_take (i := 0) (oi := { dst := some 15, op := Op.load 23 (Operand.tmp 0), type := 23, pos := "disk.go:87", after := #[], guard := none }) (v := ?_) rfl (by kernel_rfl) (by kernel_rfl) (by kernel_rfl) (fun _ _ _ h => h) (Or.inl ⟨by rfl, ?_⟩) (by assumption) ?_
    rotate_left
    · intro W hSw; obtain ⟨a0, a1, a2, a3, a4⟩ := FG.out W hSw; go_simp; try with_reducible rfl
    try simp only [Act.put, List.setIfInBounds_toArray, List.set_cons_zero, List.set_cons_succ]
    refine wpAnyH_take (i := 2) (oi := { dst := some 17, op := Op.load 34 (Operand.tmp 2), type := 34, pos := "disk.go:87", after := #[], guard := none }) (v := ?_) rfl (by kernel_rfl) (by kernel_rfl) (by kernel_rfl) (fun _ _ _ h => h) (Or.inl ⟨by rfl, ?_⟩) (by assumption) ?_
    rotate_left
    · intro W hSw; obtain ⟨a0, a1, a2, a3, a4⟩ := FG.out W hSw; go_simp; try with_reducible rfl
    try simp only [Act.put, List.setIfInBounds_toArray, List.set_cons_zero, List.set_cons_succ]
    refine wpAnyH_take (i := 3) (oi := { dst := some 18, op := Op.call { callee := Callee.builtin Builtin.len, args := #[Operand.tmp 17], argTypes := #[34] }, type := 3, pos := "disk.go:87", after := #[{ on := 2, ground := Ground.data }], guard := none }) (v := ?_) rfl (by kernel_rfl) (by kernel_rfl) (by kernel_rfl) (fun _ _ _ h => h) (Or.inl ⟨by rfl, ?_⟩) (by assumption) ?_
    rotate_left
    · intro W hSw; obtain ⟨a0, a1, a2, a3, a4⟩ := FG.out W hSw; go_simp; try with_reducible rfl
    try simp only [Act.put, List.setIfInBounds_toArray, List.set_cons_zero, List.set_cons_succ]
    refine wpAnyH_take (i := 5) (oi := { dst := some 20, op := Op.load 23 (Operand.tmp 0), type := 23, pos := "disk.go:87", after := #[], guard := none }) (v := ?_) rfl (by kernel_rfl) (by kernel_rfl) (by kernel_rfl) (fun _ _ _ h => h) (Or.inl ⟨by rfl, ?_⟩) (by assumption) ?_
    rotate_left
    · intro W hSw; obtain ⟨a0, a1, a2, a3, a4⟩ := FG.out W hSw; go_simp; try with_reducible rfl
    try simp only [Act.put, List.setIfInBounds_toArray, List.set_cons_zero, List.set_cons_succ]
    refine wpAnyH_take (i := 6) (oi := { dst := some 21, op := Op.nilCheck (Operand.tmp 20), type := 0, pos := "disk.go:87", after := #[{ on := 5, ground := Ground.data }], guard := none }) (v := ?_) rfl (by kernel_rfl) (by kernel_rfl) (by kernel_rfl) (fun _ _ _ h => h) (Or.inl ⟨by rfl, ?_⟩) (by assumption) ?_
    rotate_left
    · intro W hSw; obtain ⟨a0, a1, a2, a3, a4⟩ := FG.out W hSw; go_simp; try with_reducible rfl
    try simp only [Act.put, List.setIfInBounds_toArray, List.set_cons_zero, List.set_cons_succ]
    refine wpAnyH_take (i := 7) (oi := { dst := some 22, op := Op.fieldAddr 94 (Operand.tmp 21) 0, type := 0, pos := "disk.go:87", after := #[{ on := 6, ground := Ground.data }], guard := none }) (v := ?_) rfl (by kernel_rfl) (by kernel_rfl) (by kernel_rfl) (fun _ _ _ h => h) (Or.inl ⟨by rfl, ?_⟩) (by assumption) ?_
    rotate_left
    · intro W hSw; obtain ⟨a0, a1, a2, a3, a4⟩ := FG.out W hSw; go_simp; try with_reducible rfl
    try simp only [Act.put, List.setIfInBounds_toArray, List.set_cons_zero, List.set_cons_succ]
    refine wpAnyH_take (i := 8) (oi := { dst := some 23, op := Op.load 3 (Operand.tmp 22), type := 3, pos := "disk.go:87", after := #[{ on := 7, ground := Ground.data }], guard := none }) (v := ?_) rfl (by kernel_rfl) (by kernel_rfl) (by kernel_rfl) (fun _ _ _ h => h) (Or.inl ⟨by rfl, ?_⟩) (by assumption) ?_
    rotate_left
    · intro W hSw; obtain ⟨a0, a1, a2, a3, a4⟩ := FG.out W hSw; go_simp; try with_reducible rfl
    try simp only [Act.put, List.setIfInBounds_toArray, List.set_cons_zero, List.set_cons_succ]
    refine wpAnyH_ready (rs := [1]) (by kernel_rfl) (by simp) ?_
    refine AllReadyH.cons (o := { dst := some 16, op := Op.call { callee := Callee.value (Operand.func 23), args := #[Operand.tmp 15], argTypes := #[23] }, type := 3, pos := "disk.go:87", after := #[{ on := 0, ground := Ground.data }], guard := none }) rfl (fun K hK => ?_) AllReadyH.nil
    go_simp
    refine (dused_law (FD.out _ ((Below.refl _ _).drew))).mono ?_; rintro e w2 ⟨rfl, hB2⟩
    go_wp2_with fail
    refine hK.out _ _ (step_below ((Below.refl _ _).drew) hB2) (fun hHeldn => ?_)
    clear hK K hHeld; have hHeld := hHeldn; clear hHeldn
    try simp only [Act.put, List.setIfInBounds_toArray, List.set_cons_zero, List.set_cons_succ]
    refine wpAnyH_take (i := 4) (oi := { dst := some 19, op := Op.binOp BinOp.add 3 (Operand.tmp 16) (Operand.tmp 18) 3, type := 3, pos := "disk.go:87", after := #[{ on := 1, ground := Ground.data }, { on := 3, ground := Ground.data }], guard := none }) (v := ?_) rfl (by kernel_rfl) (by kernel_rfl) (by kernel_rfl) (fun _ _ _ h => h) (Or.inl ⟨by rfl, ?_⟩) (by assumption) ?_
    rotate_left
    · intro W hSw; obtain ⟨a0, a1, a2, a3, a4⟩ := FG.out W hSw; go_simp; try with_reducible rfl
    try simp only [Act.put, List.setIfInBounds_toArray, List.set_cons_zero, List.set_cons_succ]
    refine wpAnyH_take (i := 9) (oi := { dst := some 24, op := Op.binOp BinOp.gtr 3 (Operand.tmp 19) (Operand.tmp 23) 3, type := 4, pos := "disk.go:87", after := #[{ on := 4, ground := Ground.data }, { on := 8, ground := Ground.data }], guard := none }) (v := ?_) rfl (by kernel_rfl) (by kernel_rfl) (by kernel_rfl) (fun _ _ _ h => h) (Or.inl ⟨by rfl, ?_⟩) (by assumption) ?_
    rotate_left
    · intro W hSw; obtain ⟨a0, a1, a2, a3, a4⟩ := FG.out W hSw; go_simp; try with_reducible rfl
    try simp only [Act.put, List.setIfInBounds_toArray, List.set_cons_zero, List.set_cons_succ]
    refine wpAnyH_take (i := 10) (oi := { dst := some 25, op := Op.move (Operand.tmp 24), type := 4, pos := "disk.go:87", after := #[{ on := 9, ground := Ground.data }, { on := 1, ground := Ground.chain }], guard := none }) (v := ?_) rfl (by kernel_rfl) (by kernel_rfl) (by kernel_rfl) (fun _ _ _ h => h) (Or.inl ⟨by rfl, ?_⟩) (by assumption) ?_
    rotate_left
    · intro W hSw; obtain ⟨a0, a1, a2, a3, a4⟩ := FG.out W hSw; go_simp; try with_reducible rfl
    try simp only [Act.put, List.setIfInBounds_toArray, List.set_cons_zero, List.set_cons_succ]
    refine wpAnyH_take (i := 11) (oi := { dst := some 26, op := Op.move (Operand.tmp 5), type := 4, pos := "disk.go:87", after := #[{ on := 10, ground := Ground.guard }], guard := some (10, false) }) (v := ?_) rfl (by kernel_rfl) (by kernel_rfl) (by kernel_rfl) (fun _ _ _ h => h) (Or.inl ⟨by rfl, ?_⟩) (by assumption) ?_
    rotate_left
    · intro W hSw; obtain ⟨a0, a1, a2, a3, a4⟩ := FG.out W hSw; go_simp; try with_reducible rfl
    try simp only [Act.put, List.setIfInBounds_toArray, List.set_cons_zero, List.set_cons_succ]
    refine wpAnyH_take (i := 12) (oi := { dst := some 27, op := Op.unOp UnOp.not 4 (Operand.tmp 26), type := 4, pos := "disk.go:87", after := #[{ on := 11, ground := Ground.data }, { on := 10, ground := Ground.guard }], guard := some (10, false) }) (v := ?_) rfl (by kernel_rfl) (by kernel_rfl) (by kernel_rfl) (fun _ _ _ h => h) (Or.inl ⟨by rfl, ?_⟩) (by assumption) ?_
    rotate_left
    · intro W hSw; obtain ⟨a0, a1, a2, a3, a4⟩ := FG.out W hSw; go_simp; try with_reducible rfl
    try simp only [Act.put, List.setIfInBounds_toArray, List.set_cons_zero, List.set_cons_succ]
    refine wpAnyH_take (i := 13) (oi := { dst := some 28, op := Op.move (Operand.tmp 27), type := 4, pos := "disk.go:87", after := #[{ on := 12, ground := Ground.data }, { on := 10, ground := Ground.chain }, { on := 10, ground := Ground.guard }], guard := some (10, false) }) (v := ?_) rfl (by kernel_rfl) (by kernel_rfl) (by kernel_rfl) (fun _ _ _ h => h) (Or.inl ⟨by rfl, ?_⟩) (by assumption) ?_
    rotate_left
    · intro W hSw; obtain ⟨a0, a1, a2, a3, a4⟩ := FG.out W hSw; go_simp; try with_reducible rfl
    try simp only [Act.put, List.setIfInBounds_toArray, List.set_cons_zero, List.set_cons_succ]
    refine wpAnyH_take (i := 14) (oi := { dst := some 29, op := Op.load 23 (Operand.tmp 0), type := 23, pos := "disk.go:87", after := #[{ on := 13, ground := Ground.guard }], guard := some (13, true) }) (v := ?_) rfl (by kernel_rfl) (by kernel_rfl) (by kernel_rfl) (fun _ _ _ h => h) (Or.inl ⟨by rfl, ?_⟩) (by assumption) ?_
    rotate_left
    · intro W hSw; obtain ⟨a0, a1, a2, a3, a4⟩ := FG.out W hSw; go_simp; try with_reducible rfl
    try simp only [Act.put, List.setIfInBounds_toArray, List.set_cons_zero, List.set_cons_succ]
    refine wpAnyH_take (i := 15) (oi := { dst := some 30, op := Op.nilCheck (Operand.tmp 29), type := 0, pos := "disk.go:87", after := #[{ on := 14, ground := Ground.data }, { on := 13, ground := Ground.guard }], guard := some (13, true) }) (v := ?_) rfl (by kernel_rfl) (by kernel_rfl) (by kernel_rfl) (fun _ _ _ h => h) (Or.inl ⟨by rfl, ?_⟩) (by assumption) ?_
    rotate_left
    · intro W hSw; obtain ⟨a0, a1, a2, a3, a4⟩ := FG.out W hSw; go_simp; try with_reducible rfl
    try simp only [Act.put, List.setIfInBounds_toArray, List.set_cons_zero, List.set_cons_succ]
    refine wpAnyH_take (i := 16) (oi := { dst := some 31, op := Op.fieldAddr 94 (Operand.tmp 30) 1, type := 0, pos := "disk.go:87", after := #[{ on := 15, ground := Ground.data }, { on := 13, ground := Ground.guard }], guard := some (13, true) }) (v := ?_) rfl (by kernel_rfl) (by kernel_rfl) (by kernel_rfl) (fun _ _ _ h => h) (Or.inl ⟨by rfl, ?_⟩) (by assumption) ?_
    rotate_left
    · intro W hSw; obtain ⟨a0, a1, a2, a3, a4⟩ := FG.out W hSw; go_simp; try with_reducible rfl
    try simp only [Act.put, List.setIfInBounds_toArray, List.set_cons_zero, List.set_cons_succ]
    refine wpAnyH_take (i := 17) (oi := { dst := some 32, op := Op.load 92 (Operand.tmp 31), type := 92, pos := "disk.go:87", after := #[{ on := 16, ground := Ground.data }, { on := 13, ground := Ground.guard }], guard := some (13, true) }) (v := ?_) rfl (by kernel_rfl) (by kernel_rfl) (by kernel_rfl) (fun _ _ _ h => h) (Or.inl ⟨by rfl, ?_⟩) (by assumption) ?_
    rotate_left
    · intro W hSw; obtain ⟨a0, a1, a2, a3, a4⟩ := FG.out W hSw; go_simp; try with_reducible rfl
    try simp only [Act.put, List.setIfInBounds_toArray, List.set_cons_zero, List.set_cons_succ]
    refine wpAnyH_take (i := 18) (oi := { dst := some 33, op := Op.call { callee := Callee.builtin Builtin.len, args := #[Operand.tmp 32], argTypes := #[92] }, type := 3, pos := "disk.go:87", after := #[{ on := 17, ground := Ground.data }, { on := 13, ground := Ground.chain }, { on := 13, ground := Ground.guard }], guard := some (13, true) }) (v := ?_) rfl (by kernel_rfl) (by kernel_rfl) (by kernel_rfl) (fun _ _ _ h => h) (Or.inl ⟨by rfl, ?_⟩) (by assumption) ?_
    rotate_left
    · intro W hSw; obtain ⟨a0, a1, a2, a3, a4⟩ := FG.out W hSw; go_simp; try with_reducible rfl
    try simp only [Act.put, List.setIfInBounds_toArray, List.set_cons_zero, List.set_cons_succ]
    refine wpAnyH_take (i := 19) (oi := { dst := some 34, op := Op.binOp BinOp.eql 3 (Operand.tmp 33) (Operand.const (Value.int IntKind.i64 64)) 3, type := 4, pos := "disk.go:87", after := #[{ on := 18, ground := Ground.data }, { on := 13, ground := Ground.guard }], guard := some (13, true) }) (v := ?_) rfl (by kernel_rfl) (by kernel_rfl) (by kernel_rfl) (fun _ _ _ h => h) (Or.inl ⟨by rfl, ?_⟩) (by assumption) ?_
    rotate_left
    · intro W hSw; obtain ⟨a0, a1, a2, a3, a4⟩ := FG.out W hSw; go_simp; try with_reducible rfl
    try simp only [Act.put, List.setIfInBounds_toArray, List.set_cons_zero, List.set_cons_succ]
    refine wpAnyH_take (i := 20) (oi := { dst := some 35, op := Op.pick (Operand.tmp 28) (Operand.tmp 34) (Operand.const (Value.bool false)), type := 4, pos := "disk.go:87", after := #[{ on := 13, ground := Ground.data }, { on := 19, ground := Ground.data }, { on := 10, ground := Ground.guard }], guard := some (10, false) }) (v := ?_) rfl (by kernel_rfl) (by kernel_rfl) (by kernel_rfl) (fun _ _ _ h => h) (Or.inl ⟨by rfl, ?_⟩) (by assumption) ?_
    rotate_left
    · intro W hSw; obtain ⟨a0, a1, a2, a3, a4⟩ := FG.out W hSw; go_simp; try with_reducible rfl
    try simp only [Act.put, List.setIfInBounds_toArray, List.set_cons_zero, List.set_cons_succ]
    refine wpAnyH_take (i := 21) (oi := { dst := some 36, op := Op.pick (Operand.tmp 25) (Operand.const (Value.bool true)) (Operand.tmp 35), type := 4, pos := "disk.go:87", after := #[{ on := 10, ground := Ground.data }, { on := 20, ground := Ground.data }], guard := none }) (v := ?_) rfl (by kernel_rfl) (by kernel_rfl) (by kernel_rfl) (fun _ _ _ h => h) (Or.inl ⟨by rfl, ?_⟩) (by assumption) ?_
    rotate_left
    · intro W hSw; obtain ⟨a0, a1, a2, a3, a4⟩ := FG.out W hSw; go_simp; try with_reducible rfl
    try simp only [Act.put, List.setIfInBounds_toArray, List.set_cons_zero, List.set_cons_succ]
    refine wpAnyH_done (by kernel_rfl) ?_ _
    skip
    have hB2' := Lib.hid (step_below HB.out hHeld)
    have hn2 : BoxC w2 w.heap.size #[.slice f.ad f.bs.length f.cap, .int .i64 f.last] 118 := HN.out.below hHeld
    have n0 : w2.cell? ⟨w.heap.size, 0, none⟩ = some (.slice f.ad f.bs.length f.cap) := hn2.cell 0
    have n2 : w2.cell? ⟨b2, 0, none⟩ = some (.slice ba bn bc) := (HX.out w2 hB2'.out).2.2.cell 0
    have HN2 := Lib.hid hn2
    have hbig : w.heap.size < w2.heap.size := hn2.lt
    have HBG := Lib.hid hbig
    clear hn2 hHeld hbig w0 dgt hgt hB2 d64
    go_wp2_with (at_builtin; refine append_row rfl (.tmp 38) (.tmp 39) rfl f ((HR0.out).off (Off.of (S := fun _ => False) hB2'.out) (fun _ _ h => h)) rfl ba bc bn B HBn.out rfl (HLs.out.below hB2'.out) HBD.out ?_)
    intro ad' cap' w3 hrow hgrow hblk
    have HNB := Lib.hid (HR0.out.nbox_new)
    have hn3 : BoxC w3 w.heap.size #[.slice f.ad f.bs.length f.cap, .int .i64 f.last] 118 := (off_grown hgrow).box HN2.out (fun e => HNB.out e)
    have n3 : w3.cell? ⟨w.heap.size, 0, none⟩ = some (.slice f.ad f.bs.length f.cap) := hn3.cell 0
    have n4 : w3.frozen? ⟨w.heap.size, 0, none⟩ = false := hn3.frozen 0
    have HA := Lib.hid (HAA.out w2 w3 ad' cap' hB2'.out HBG.out hrow hgrow hblk hn3 H0.out H1.out)
    have HBK := Lib.hid (show (moreF f B ad' cap').blk = f.blk ∨ ∃ k, w.heap.size ≤ k ∧ (moreF f B ad' cap').blk = some k from hblk.imp (fun h => h) fun h => ⟨_, Nat.le_of_lt HBG.out, h⟩)
    clear n0 n2 hn3 hrow hgrow hblk
    obtain ⟨w5, hrun, hoff, hDk, hO, hF⟩ := HA.out
    have F5 := Lib.hid hF
    have HDk := Lib.hid hDk
    have HO := Lib.hid hO
    clear hF hDk hO
    go_wp2
    refine wp_region_held_drew (S := (fun X => Off (fun k => k = bm) (w3.setCell ⟨w.heap.size, 0, none⟩ (.slice ad' (f.bs.length + bn) cap')).drew X)) (by kernel_rfl) ((Off.refl _ _)) (fun hHeld => ?_)
    refine wpAnyH_take (i := 0) (oi := { dst := some 42, op := Op.load 23 (Operand.tmp 0), type := 23, pos := "disk.go:91", after := #[], guard := none }) (v := ?_) rfl (by kernel_rfl) (by kernel_rfl) (by kernel_rfl) (fun _ _ _ h => h) (Or.inl ⟨by rfl, ?_⟩) (by assumption) ?_
    rotate_left
    · intro W hSw; obtain ⟨a0, a1, a2, a3, a4⟩ := F5.out _ hSw; go_simp; try with_reducible rfl
    try simp only [Act.put, List.setIfInBounds_toArray, List.set_cons_zero, List.set_cons_succ]
    refine wpAnyH_take (i := 1) (oi := { dst := some 43, op := Op.nilCheck (Operand.tmp 42), type := 0, pos := "disk.go:91", after := #[{ on := 0, ground := Ground.data }], guard := none }) (v := ?_) rfl (by kernel_rfl) (by kernel_rfl) (by kernel_rfl) (fun _ _ _ h => h) (Or.inl ⟨by rfl, ?_⟩) (by assumption) ?_
    rotate_left
    · intro W hSw; go_simp; try with_reducible rfl
    try simp only [Act.put, List.setIfInBounds_toArray, List.set_cons_zero, List.set_cons_succ]
    refine wpAnyH_take (i := 2) (oi := { dst := some 44, op := Op.fieldAddr 94 (Operand.tmp 43) 1, type := 0, pos := "disk.go:91", after := #[{ on := 1, ground := Ground.data }], guard := none }) (v := ?_) rfl (by kernel_rfl) (by kernel_rfl) (by kernel_rfl) (fun _ _ _ h => h) (Or.inl ⟨by rfl, ?_⟩) (by assumption) ?_
    rotate_left
    · intro W hSw; go_simp; try with_reducible rfl
    try simp only [Act.put, List.setIfInBounds_toArray, List.set_cons_zero, List.set_cons_succ]
    refine wpAnyH_take (i := 3) (oi := { dst := some 45, op := Op.load 92 (Operand.tmp 44), type := 92, pos := "disk.go:91", after := #[{ on := 2, ground := Ground.data }], guard := none }) (v := ?_) rfl (by kernel_rfl) (by kernel_rfl) (by kernel_rfl) (fun _ _ _ h => h) (Or.inl ⟨by rfl, ?_⟩) (by assumption) ?_
    rotate_left
    · intro W hSw; obtain ⟨a0, a1, a2, a3, a4⟩ := F5.out _ hSw; go_simp; try with_reducible rfl
    try simp only [Act.put, List.setIfInBounds_toArray, List.set_cons_zero, List.set_cons_succ]
    refine wpAnyH_take (i := 4) (oi := { dst := some 46, op := Op.load 9 (Operand.tmp 1), type := 9, pos := "disk.go:91", after := #[], guard := none }) (v := ?_) rfl (by kernel_rfl) (by kernel_rfl) (by kernel_rfl) (fun _ _ _ h => h) (Or.inl ⟨by rfl, ?_⟩) (by assumption) ?_
    rotate_left
    · intro W hSw; obtain ⟨a0, a1, a2, a3, a4⟩ := F5.out _ hSw; go_simp; try with_reducible rfl
    try simp only [Act.put, List.setIfInBounds_toArray, List.set_cons_zero, List.set_cons_succ]
    refine wpAnyH_take (i := 5) (oi := { dst := some 47, op := Op.load 118 (Operand.tmp 4), type := 118, pos := "disk.go:91", after := #[], guard := none }) (v := ?_) rfl (by kernel_rfl) (by kernel_rfl) (by kernel_rfl) (fun _ _ _ h => h) (Or.inl ⟨by rfl, ?_⟩) (by assumption) ?_
    rotate_left
    · intro W hSw; obtain ⟨a0, a1, a2, a3, a4⟩ := F5.out _ hSw; go_simp; try with_reducible rfl
    try simp only [Act.put, List.setIfInBounds_toArray, List.set_cons_zero, List.set_cons_succ]
    refine wpAnyH_ready (rs := [6]) (by kernel_rfl) (by simp) ?_
    refine AllReadyH.cons (o := { dst := none, op := Op.mapUpdate 92 (Operand.tmp 45) (Operand.tmp 46) (Operand.tmp 47), type := 0, pos := "disk.go:91", after := #[{ on := 3, ground := Ground.data }, { on := 4, ground := Ground.data }, { on := 5, ground := Ground.data }, { on := 0, ground := Ground.phase }, { on := 1, ground := Ground.phase }, { on := 2, ground := Ground.phase }, { on := 3, ground := Ground.phase }, { on := 4, ground := Ground.phase }, { on := 5, ground := Ground.phase }], guard := none }) rfl (fun K hK => ?_) AllReadyH.nil
    go_simp
    refine hK.out _ _ hoff (fun hHeldn => ?_)
    clear hK K hHeld; have hHeld := hHeldn; clear hHeldn
    try simp only [Act.put, List.setIfInBounds_toArray, List.set_cons_zero, List.set_cons_succ]
    refine wpAnyH_done (by kernel_rfl) ?_ _
    skip
    clear hrun hoff hHeld
    go_wp2
    go_ret
    exact ⟨rfl, ad', cap', HDk.out, HO.out, HBK.out⟩
  · go_wp2
    refine wp_region_held_drew (S := (fun X => Below W1.heap.size W1 X)) (by kernel_rfl) ((Below.refl _ _).drew) (fun hHeld => ?_)
    refine wpAnyH_take (i := 0) (oi := { dst := some 15, op := Op.load 23 (Operand.tmp 0), type := 23, pos := "disk.go:87", after := #[], guard := none }) (v := ?_) rfl (by kernel_rfl) (by kernel_rfl) (by kernel_rfl) (fun _ _ _ h => h) (Or.inl ⟨by rfl, ?_⟩) (by assumption) ?_
    rotate_left
    · intro W hSw; obtain ⟨a0, a1, a2, a3, a4⟩ := FG.out W hSw; go_simp; try with_reducible rfl
    try simp only [Act.put, List.setIfInBounds_toArray, List.set_cons_zero, List.set_cons_succ]
    refine wpAnyH_take (i := 2) (oi := { dst := some 17, op := Op.load 34 (Operand.tmp 2), type := 34, pos := "disk.go:87", after := #[], guard := none }) (v := ?_) rfl (by kernel_rfl) (by kernel_rfl) (by kernel_rfl) (fun _ _ _ h => h) (Or.inl ⟨by rfl, ?_⟩) (by assumption) ?_
    rotate_left
    · intro W hSw; obtain ⟨a0, a1, a2, a3, a4⟩ := FG.out W hSw; go_simp; try with_reducible rfl
    try simp only [Act.put, List.setIfInBounds_toArray, List.set_cons_zero, List.set_cons_succ]
    refine wpAnyH_take (i := 3) (oi := { dst := some 18, op := Op.call { callee := Callee.builtin Builtin.len, args := #[Operand.tmp 17], argTypes := #[34] }, type := 3, pos := "disk.go:87", after := #[{ on := 2, ground := Ground.data }], guard := none }) (v := ?_) rfl (by kernel_rfl) (by kernel_rfl) (by kernel_rfl) (fun _ _ _ h => h) (Or.inl ⟨by rfl, ?_⟩) (by assumption) ?_
    rotate_left
    · intro W hSw; obtain ⟨a0, a1, a2, a3, a4⟩ := FG.out W hSw; go_simp; try with_reducible rfl
    try simp only [Act.put, List.setIfInBounds_toArray, List.set_cons_zero, List.set_cons_succ]
    refine wpAnyH_take (i := 5) (oi := { dst := some 20, op := Op.load 23 (Operand.tmp 0), type := 23, pos := "disk.go:87", after := #[], guard := none }) (v := ?_) rfl (by kernel_rfl) (by kernel_rfl) (by kernel_rfl) (fun _ _ _ h => h) (Or.inl ⟨by rfl, ?_⟩) (by assumption) ?_
    rotate_left
    · intro W hSw; obtain ⟨a0, a1, a2, a3, a4⟩ := FG.out W hSw; go_simp; try with_reducible rfl
    try simp only [Act.put, List.setIfInBounds_toArray, List.set_cons_zero, List.set_cons_succ]
    refine wpAnyH_take (i := 6) (oi := { dst := some 21, op := Op.nilCheck (Operand.tmp 20), type := 0, pos := "disk.go:87", after := #[{ on := 5, ground := Ground.data }], guard := none }) (v := ?_) rfl (by kernel_rfl) (by kernel_rfl) (by kernel_rfl) (fun _ _ _ h => h) (Or.inl ⟨by rfl, ?_⟩) (by assumption) ?_
    rotate_left
    · intro W hSw; obtain ⟨a0, a1, a2, a3, a4⟩ := FG.out W hSw; go_simp; try with_reducible rfl
    try simp only [Act.put, List.setIfInBounds_toArray, List.set_cons_zero, List.set_cons_succ]
    refine wpAnyH_take (i := 7) (oi := { dst := some 22, op := Op.fieldAddr 94 (Operand.tmp 21) 0, type := 0, pos := "disk.go:87", after := #[{ on := 6, ground := Ground.data }], guard := none }) (v := ?_) rfl (by kernel_rfl) (by kernel_rfl) (by kernel_rfl) (fun _ _ _ h => h) (Or.inl ⟨by rfl, ?_⟩) (by assumption) ?_
    rotate_left
    · intro W hSw; obtain ⟨a0, a1, a2, a3, a4⟩ := FG.out W hSw; go_simp; try with_reducible rfl
    try simp only [Act.put, List.setIfInBounds_toArray, List.set_cons_zero, List.set_cons_succ]
    refine wpAnyH_take (i := 8) (oi := { dst := some 23, op := Op.load 3 (Operand.tmp 22), type := 3, pos := "disk.go:87", after := #[{ on := 7, ground := Ground.data }], guard := none }) (v := ?_) rfl (by kernel_rfl) (by kernel_rfl) (by kernel_rfl) (fun _ _ _ h => h) (Or.inl ⟨by rfl, ?_⟩) (by assumption) ?_
    rotate_left
    · intro W hSw; obtain ⟨a0, a1, a2, a3, a4⟩ := FG.out W hSw; go_simp; try with_reducible rfl
    try simp only [Act.put, List.setIfInBounds_toArray, List.set_cons_zero, List.set_cons_succ]
    refine wpAnyH_ready (rs := [1]) (by kernel_rfl) (by simp) ?_
    refine AllReadyH.cons (o := { dst := some 16, op := Op.call { callee := Callee.value (Operand.func 23), args := #[Operand.tmp 15], argTypes := #[23] }, type := 3, pos := "disk.go:87", after := #[{ on := 0, ground := Ground.data }], guard := none }) rfl (fun K hK => ?_) AllReadyH.nil
    go_simp
    refine (dused_law (FD.out _ ((Below.refl _ _).drew))).mono ?_; rintro e w2 ⟨rfl, hB2⟩
    go_wp2_with fail
    refine hK.out _ _ (step_below ((Below.refl _ _).drew) hB2) (fun hHeldn => ?_)
    clear hK K hHeld; have hHeld := hHeldn; clear hHeldn
    try simp only [Act.put, List.setIfInBounds_toArray, List.set_cons_zero, List.set_cons_succ]
    refine wpAnyH_take (i := 4) (oi := { dst := some 19, op := Op.binOp BinOp.add 3 (Operand.tmp 16) (Operand.tmp 18) 3, type := 3, pos := "disk.go:87", after := #[{ on := 1, ground := Ground.data }, { on := 3, ground := Ground.data }], guard := none }) (v := ?_) rfl (by kernel_rfl) (by kernel_rfl) (by kernel_rfl) (fun _ _ _ h => h) (Or.inl ⟨by rfl, ?_⟩) (by assumption) ?_
    rotate_left
    · intro W hSw; obtain ⟨a0, a1, a2, a3, a4⟩ := FG.out W hSw; go_simp; try with_reducible rfl
    try simp only [Act.put, List.setIfInBounds_toArray, List.set_cons_zero, List.set_cons_succ]
    refine wpAnyH_take (i := 9) (oi := { dst := some 24, op := Op.binOp BinOp.gtr 3 (Operand.tmp 19) (Operand.tmp 23) 3, type := 4, pos := "disk.go:87", after := #[{ on := 4, ground := Ground.data }, { on := 8, ground := Ground.data }], guard := none }) (v := ?_) rfl (by kernel_rfl) (by kernel_rfl) (by kernel_rfl) (fun _ _ _ h => h) (Or.inl ⟨by rfl, ?_⟩) (by assumption) ?_
    rotate_left
    · intro W hSw; obtain ⟨a0, a1, a2, a3, a4⟩ := FG.out W hSw; go_simp; try with_reducible rfl
    try simp only [Act.put, List.setIfInBounds_toArray, List.set_cons_zero, List.set_cons_succ]
    refine wpAnyH_take (i := 10) (oi := { dst := some 25, op := Op.move (Operand.tmp 24), type := 4, pos := "disk.go:87", after := #[{ on := 9, ground := Ground.data }, { on := 1, ground := Ground.chain }], guard := none }) (v := ?_) rfl (by kernel_rfl) (by kernel_rfl) (by kernel_rfl) (fun _ _ _ h => h) (Or.inl ⟨by rfl, ?_⟩) (by assumption) ?_
    rotate_left
    · intro W hSw; obtain ⟨a0, a1, a2, a3, a4⟩ := FG.out W hSw; go_simp; try with_reducible rfl
    try simp only [Act.put, List.setIfInBounds_toArray, List.set_cons_zero, List.set_cons_succ]
    refine wpAnyH_take (i := 11) (oi := { dst := some 26, op := Op.move (Operand.tmp 5), type := 4, pos := "disk.go:87", after := #[{ on := 10, ground := Ground.guard }], guard := some (10, false) }) (v := ?_) rfl (by kernel_rfl) (by kernel_rfl) (by kernel_rfl) (fun _ _ _ h => h) (Or.inl ⟨by rfl, ?_⟩) (by assumption) ?_
    rotate_left
    · intro W hSw; obtain ⟨a0, a1, a2, a3, a4⟩ := FG.out W hSw; go_simp; try with_reducible rfl
    try simp only [Act.put, List.setIfInBounds_toArray, List.set_cons_zero, List.set_cons_succ]
    refine wpAnyH_take (i := 12) (oi := { dst := some 27, op := Op.unOp UnOp.not 4 (Operand.tmp 26), type := 4, pos := "disk.go:87", after := #[{ on := 11, ground := Ground.data }, { on := 10, ground := Ground.guard }], guard := some (10, false) }) (v := ?_) rfl (by kernel_rfl) (by kernel_rfl) (by kernel_rfl) (fun _ _ _ h => h) (Or.inl ⟨by rfl, ?_⟩) (by assumption) ?_
    rotate_left
    · intro W hSw; obtain ⟨a0, a1, a2, a3, a4⟩ := FG.out W hSw; go_simp; try with_reducible rfl
    try simp only [Act.put, List.setIfInBounds_toArray, List.set_cons_zero, List.set_cons_succ]
    refine wpAnyH_take (i := 13) (oi := { dst := some 28, op := Op.move (Operand.tmp 27), type := 4, pos := "disk.go:87", after := #[{ on := 12, ground := Ground.data }, { on := 10, ground := Ground.chain }, { on := 10, ground := Ground.guard }], guard := some (10, false) }) (v := ?_) rfl (by kernel_rfl) (by kernel_rfl) (by kernel_rfl) (fun _ _ _ h => h) (Or.inl ⟨by rfl, ?_⟩) (by assumption) ?_
    rotate_left
    · intro W hSw; obtain ⟨a0, a1, a2, a3, a4⟩ := FG.out W hSw; go_simp; try with_reducible rfl
    try simp only [Act.put, List.setIfInBounds_toArray, List.set_cons_zero, List.set_cons_succ]
    refine wpAnyH_take (i := 14) (oi := { dst := some 29, op := Op.load 23 (Operand.tmp 0), type := 23, pos := "disk.go:87", after := #[{ on := 13, ground := Ground.guard }], guard := some (13, true) }) (v := undef) rfl (by kernel_rfl) (by kernel_rfl) (by kernel_rfl) (fun _ _ _ h => h) (Or.inr ⟨by rfl, rfl⟩) (by assumption) ?_
    try simp only [Act.put, List.setIfInBounds_toArray, List.set_cons_zero, List.set_cons_succ]
    refine wpAnyH_take (i := 15) (oi := { dst := some 30, op := Op.nilCheck (Operand.tmp 29), type := 0, pos := "disk.go:87", after := #[{ on := 14, ground := Ground.data }, { on := 13, ground := Ground.guard }], guard := some (13, true) }) (v := undef) rfl (by kernel_rfl) (by kernel_rfl) (by kernel_rfl) (fun _ _ _ h => h) (Or.inr ⟨by rfl, rfl⟩) (by assumption) ?_
    try simp only [Act.put, List.setIfInBounds_toArray, List.set_cons_zero, List.set_cons_succ]
    refine wpAnyH_take (i := 16) (oi := { dst := some 31, op := Op.fieldAddr 94 (Operand.tmp 30) 1, type := 0, pos := "disk.go:87", after := #[{ on := 15, ground := Ground.data }, { on := 13, ground := Ground.guard }], guard := some (13, true) }) (v := undef) rfl (by kernel_rfl) (by kernel_rfl) (by kernel_rfl) (fun _ _ _ h => h) (Or.inr ⟨by rfl, rfl⟩) (by assumption) ?_
    try simp only [Act.put, List.setIfInBounds_toArray, List.set_cons_zero, List.set_cons_succ]
    refine wpAnyH_take (i := 17) (oi := { dst := some 32, op := Op.load 92 (Operand.tmp 31), type := 92, pos := "disk.go:87", after := #[{ on := 16, ground := Ground.data }, { on := 13, ground := Ground.guard }], guard := some (13, true) }) (v := undef) rfl (by kernel_rfl) (by kernel_rfl) (by kernel_rfl) (fun _ _ _ h => h) (Or.inr ⟨by rfl, rfl⟩) (by assumption) ?_
    try simp only [Act.put, List.setIfInBounds_toArray, List.set_cons_zero, List.set_cons_succ]
    refine wpAnyH_take (i := 18) (oi := { dst := some 33, op := Op.call { callee := Callee.builtin Builtin.len, args := #[Operand.tmp 32], argTypes := #[92] }, type := 3, pos := "disk.go:87", after := #[{ on := 17, ground := Ground.data }, { on := 13, ground := Ground.chain }, { on := 13, ground := Ground.guard }], guard := some (13, true) }) (v := undef) rfl (by kernel_rfl) (by kernel_rfl) (by kernel_rfl) (fun _ _ _ h => h) (Or.inr ⟨by rfl, rfl⟩) (by assumption) ?_
    try simp only [Act.put, List.setIfInBounds_toArray, List.set_cons_zero, List.set_cons_succ]
    refine wpAnyH_take (i := 19) (oi := { dst := some 34, op := Op.binOp BinOp.eql 3 (Operand.tmp 33) (Operand.const (Value.int IntKind.i64 64)) 3, type := 4, pos := "disk.go:87", after := #[{ on := 18, ground := Ground.data }, { on := 13, ground := Ground.guard }], guard := some (13, true) }) (v := undef) rfl (by kernel_rfl) (by kernel_rfl) (by kernel_rfl) (fun _ _ _ h => h) (Or.inr ⟨by rfl, rfl⟩) (by assumption) ?_
    try simp only [Act.put, List.setIfInBounds_toArray, List.set_cons_zero, List.set_cons_succ]
    refine wpAnyH_take (i := 20) (oi := { dst := some 35, op := Op.pick (Operand.tmp 28) (Operand.tmp 34) (Operand.const (Value.bool false)), type := 4, pos := "disk.go:87", after := #[{ on := 13, ground := Ground.data }, { on := 19, ground := Ground.data }, { on := 10, ground := Ground.guard }], guard := some (10, false) }) (v := ?_) rfl (by kernel_rfl) (by kernel_rfl) (by kernel_rfl) (fun _ _ _ h => h) (Or.inl ⟨by rfl, ?_⟩) (by assumption) ?_
    rotate_left
    · intro W hSw; obtain ⟨a0, a1, a2, a3, a4⟩ := FG.out W hSw; go_simp; try with_reducible rfl
    try simp only [Act.put, List.setIfInBounds_toArray, List.set_cons_zero, List.set_cons_succ]
    refine wpAnyH_take (i := 21) (oi := { dst := some 36, op := Op.pick (Operand.tmp 25) (Operand.const (Value.bool true)) (Operand.tmp 35), type := 4, pos := "disk.go:87", after := #[{ on := 10, ground := Ground.data }, { on := 20, ground := Ground.data }], guard := none }) (v := ?_) rfl (by kernel_rfl) (by kernel_rfl) (by kernel_rfl) (fun _ _ _ h => h) (Or.inl ⟨by rfl, ?_⟩) (by assumption) ?_
    rotate_left
    · intro W hSw; obtain ⟨a0, a1, a2, a3, a4⟩ := FG.out W hSw; go_simp; try with_reducible rfl
    try simp only [Act.put, List.setIfInBounds_toArray, List.set_cons_zero, List.set_cons_succ]
    refine wpAnyH_done (by kernel_rfl) ?_ _
    skip
    have hB2' := Lib.hid (step_below HB.out hHeld)
    have hn2 : BoxC w2 w.heap.size #[.slice f.ad f.bs.length f.cap, .int .i64 f.last] 118 := HN.out.below hHeld
    have n0 : w2.cell? ⟨w.heap.size, 0, none⟩ = some (.slice f.ad f.bs.length f.cap) := hn2.cell 0
    have n2 : w2.cell? ⟨b2, 0, none⟩ = some (.slice ba bn bc) := (HX.out w2 hB2'.out).2.2.cell 0
    have HN2 := Lib.hid hn2
    have hbig : w.heap.size < w2.heap.size := hn2.lt
    have HBG := Lib.hid hbig
    clear hn2 hHeld hbig w0 dgt hgt hB2
    go_wp2_with (at_builtin; refine append_row rfl (.tmp 38) (.tmp 39) rfl f ((HR0.out).off (Off.of (S := fun _ => False) hB2'.out) (fun _ _ h => h)) rfl ba bc bn B HBn.out rfl (HLs.out.below hB2'.out) HBD.out ?_)
    intro ad' cap' w3 hrow hgrow hblk
    have HNB := Lib.hid (HR0.out.nbox_new)
    have hn3 : BoxC w3 w.heap.size #[.slice f.ad f.bs.length f.cap, .int .i64 f.last] 118 := (off_grown hgrow).box HN2.out (fun e => HNB.out e)
    have n3 : w3.cell? ⟨w.heap.size, 0, none⟩ = some (.slice f.ad f.bs.length f.cap) := hn3.cell 0
    have n4 : w3.frozen? ⟨w.heap.size, 0, none⟩ = false := hn3.frozen 0
    have HA := Lib.hid (HAA.out w2 w3 ad' cap' hB2'.out HBG.out hrow hgrow hblk hn3 H0.out H1.out)
    have HBK := Lib.hid (show (moreF f B ad' cap').blk = f.blk ∨ ∃ k, w.heap.size ≤ k ∧ (moreF f B ad' cap').blk = some k from hblk.imp (fun h => h) fun h => ⟨_, Nat.le_of_lt HBG.out, h⟩)
    clear n0 n2 hn3 hrow hgrow hblk
    obtain ⟨w5, hrun, hoff, hDk, hO, hF⟩ := HA.out
    have F5 := Lib.hid hF
    have HDk := Lib.hid hDk
    have HO := Lib.hid hO
    clear hF hDk hO
    go_wp2
    refine wp_region_held_drew (S := (fun X => Off (fun k => k = bm) (w3.setCell ⟨w.heap.size, 0, none⟩ (.slice ad' (f.bs.length + bn) cap')).drew X)) (by kernel_rfl) ((Off.refl _ _)) (fun hHeld => ?_)
    refine wpAnyH_take (i := 0) (oi := { dst := some 42, op := Op.load 23 (Operand.tmp 0), type := 23, pos := "disk.go:91", after := #[], guard := none }) (v := ?_) rfl (by kernel_rfl) (by kernel_rfl) (by kernel_rfl) (fun _ _ _ h => h) (Or.inl ⟨by rfl, ?_⟩) (by assumption) ?_
    rotate_left
    · intro W hSw; obtain ⟨a0, a1, a2, a3, a4⟩ := F5.out _ hSw; go_simp; try with_reducible rfl
    try simp only [Act.put, List.setIfInBounds_toArray, List.set_cons_zero, List.set_cons_succ]
    refine wpAnyH_take (i := 1) (oi := { dst := some 43, op := Op.nilCheck (Operand.tmp 42), type := 0, pos := "disk.go:91", after := #[{ on := 0, ground := Ground.data }], guard := none }) (v := ?_) rfl (by kernel_rfl) (by kernel_rfl) (by kernel_rfl) (fun _ _ _ h => h) (Or.inl ⟨by rfl, ?_⟩) (by assumption) ?_
    rotate_left
    · intro W hSw; go_simp; try with_reducible rfl
    try simp only [Act.put, List.setIfInBounds_toArray, List.set_cons_zero, List.set_cons_succ]
    refine wpAnyH_take (i := 2) (oi := { dst := some 44, op := Op.fieldAddr 94 (Operand.tmp 43) 1, type := 0, pos := "disk.go:91", after := #[{ on := 1, ground := Ground.data }], guard := none }) (v := ?_) rfl (by kernel_rfl) (by kernel_rfl) (by kernel_rfl) (fun _ _ _ h => h) (Or.inl ⟨by rfl, ?_⟩) (by assumption) ?_
    rotate_left
    · intro W hSw; go_simp; try with_reducible rfl
    try simp only [Act.put, List.setIfInBounds_toArray, List.set_cons_zero, List.set_cons_succ]
    refine wpAnyH_take (i := 3) (oi := { dst := some 45, op := Op.load 92 (Operand.tmp 44), type := 92, pos := "disk.go:91", after := #[{ on := 2, ground := Ground.data }], guard := none }) (v := ?_) rfl (by kernel_rfl) (by kernel_rfl) (by kernel_rfl) (fun _ _ _ h => h) (Or.inl ⟨by rfl, ?_⟩) (by assumption) ?_
    rotate_left
    · intro W hSw; obtain ⟨a0, a1, a2, a3, a4⟩ := F5.out _ hSw; go_simp; try with_reducible rfl
    try simp only [Act.put, List.setIfInBounds_toArray, List.set_cons_zero, List.set_cons_succ]
    refine wpAnyH_take (i := 4) (oi := { dst := some 46, op := Op.load 9 (Operand.tmp 1), type := 9, pos := "disk.go:91", after := #[], guard := none }) (v := ?_) rfl (by kernel_rfl) (by kernel_rfl) (by kernel_rfl) (fun _ _ _ h => h) (Or.inl ⟨by rfl, ?_⟩) (by assumption) ?_
    rotate_left
    · intro W hSw; obtain ⟨a0, a1, a2, a3, a4⟩ := F5.out _ hSw; go_simp; try with_reducible rfl
    try simp only [Act.put, List.setIfInBounds_toArray, List.set_cons_zero, List.set_cons_succ]
    refine wpAnyH_take (i := 5) (oi := { dst := some 47, op := Op.load 118 (Operand.tmp 4), type := 118, pos := "disk.go:91", after := #[], guard := none }) (v := ?_) rfl (by kernel_rfl) (by kernel_rfl) (by kernel_rfl) (fun _ _ _ h => h) (Or.inl ⟨by rfl, ?_⟩) (by assumption) ?_
    rotate_left
    · intro W hSw; obtain ⟨a0, a1, a2, a3, a4⟩ := F5.out _ hSw; go_simp; try with_reducible rfl
    try simp only [Act.put, List.setIfInBounds_toArray, List.set_cons_zero, List.set_cons_succ]
    refine wpAnyH_ready (rs := [6]) (by kernel_rfl) (by simp) ?_
    refine AllReadyH.cons (o := { dst := none, op := Op.mapUpdate 92 (Operand.tmp 45) (Operand.tmp 46) (Operand.tmp 47), type := 0, pos := "disk.go:91", after := #[{ on := 3, ground := Ground.data }, { on := 4, ground := Ground.data }, { on := 5, ground := Ground.data }, { on := 0, ground := Ground.phase }, { on := 1, ground := Ground.phase }, { on := 2, ground := Ground.phase }, { on := 3, ground := Ground.phase }, { on := 4, ground := Ground.phase }, { on := 5, ground := Ground.phase }], guard := none }) rfl (fun K hK => ?_) AllReadyH.nil
    go_simp
    refine hK.out _ _ hoff (fun hHeldn => ?_)
    clear hK K hHeld; have hHeld := hHeldn; clear hHeldn
    try simp only [Act.put, List.setIfInBounds_toArray, List.set_cons_zero, List.set_cons_succ]
    refine wpAnyH_done (by kernel_rfl) ?_ _
    skip
    clear hrun hoff hHeld
    go_wp2
    go_ret
    exact ⟨rfl, ad', cap', HDk.out, HO.out, HBK.out⟩
end Go.Proofs.Ytbjhcbiihekceaa
