/- Disks: Rename. -/
import Derived.Test.YtbjhcbiihekceaaDkx
namespace Go.Proofs.Ytbjhcbiihekceaa
open Go.ChangeShapes Go.WideShapes Go.ChangeAt Go.RowKit Go.Maps
set_option linter.unusedVariables false
set_option linter.unusedSimpArgs false
/-- A file by another name. -/
def renF (f : Fil) (to : ByteArray) : Fil := { f with nm := to }
theorem Fls.ren {room : Nat} {L : List Fil} (h : Fls room L) {f : Fil} (hf : f ∈ L) {to : ByteArray} (hm : mayB to = true) : Fls room (putL (renF f to) (delL f.nm L)) := by
  have h1 := sum_del_mem hf
  have h2 := len_del_mem hf
  have h3 := sum_del to (delL f.nm L)
  have h4 : (delL to (delL f.nm L)).length ≤ (delL f.nm L).length := List.length_filter_le _ _
  refine (h.del f.nm).put (renF f to) (fun g hg => ?_) hm (h.byt f hf) (h.lasts f hf) ?_ ?_
  · have := mem_delL.1 (mem_delL.1 hg).1
    exact h.ap (f := f) hf this.1 this.2
  · show ((delL to (delL f.nm L)).map fun f => f.bs.length).sum + f.bs.length ≤ room
    have := h.used
    omega
  · show (delL to (delL f.nm L)).length + 1 ≤ 64
    have := h.few
    omega
set_option maxHeartbeats 2000000 in
theorem dren1_law {W : World} {p bm room : Nat} {L : List Fil} (h : Dk W p bm room L) (f : Fil) (hf : f ∈ L) (to : ByteArray) (hm : mayB to = true) (b0 b1 b2 : Nat) (h0 : BoxC W b0 #[.pointer (some ⟨p, 0, none⟩)] 23) (h1 : BoxC W b1 #[.string f.nm] 9) (h2 : BoxC W b2 #[.string to] 9) :
    Calls Try.prog 95 #[.agg #[.slice f.ad f.bs.length f.cap, .int .i64 f.last], .pointer (some ⟨b0, 0, none⟩), .pointer (some ⟨b1, 0, none⟩), .pointer (some ⟨b2, 0, none⟩)] W fun e w' => e = .returned (.tuple #[]) ∧ Dk w' p bm room (putL (renF f to) (delL f.nm L)) ∧ Off (fun k => k = bm) W w' := by
  have hs := may_size (h.ok.nms f hf)
  have ht := may_size hm
  obtain ⟨W1, hW⟩ : ∃ W1, (W.alloc (.cells #[.slice f.ad f.bs.length f.cap, .int .i64 f.last] 118)).drew = W1 := ⟨_, rfl⟩
  have hb : Below W.heap.size W W1 := by rw [← hW]; exact (bl1 _ _).drew
  have hd := h.below hb
  have hN : BoxC W1 W.heap.size #[.slice f.ad f.bs.length f.cap, .int .i64 f.last] 118 := by rw [← hW]; exact BoxC.new W _ _
  obtain ⟨w2, hrun, hm2, ht2⟩ := hd.map.drop law9 Try.underlying92 (key_of f.nm hs) 0
  have hoff : Off (fun k => k = bm) W1 w2 := Off.of_map ht2.grown rfl
  rw [del_dOf] at hm2
  have hd2 := (hd.turn hm2 hoff (h.ok.del f.nm) fun g hg => hd.rows g (mem_delL.1 hg).1).off (Off.of (S := fun _ => False) ((Below.refl w2.heap.size w2).drew)) (fun _ _ h => h)
  have hoffD : Off (fun k => k = bm) W1 w2.drew := hoff.trans (Off.of ((Below.refl w2.heap.size w2).drew))
  obtain ⟨w3, hrun3, hm3, ht3⟩ := hd2.map.store law9 Try.underlying92 (Nat.lt_of_le_of_lt hd2.ok.few (by decide)) (key_of to ht) (RF_fv f.ad f.bs.length f.cap f.last)
  have hoff3 : Off (fun k => k = bm) w2.drew w3 := Off.of_map ht3.grown rfl
  replace hm3 : w3.ownsMap Try.prog 9 RF bm ((delL f.nm L).length + 1) (dOf (putL (renF f to) (delL f.nm L))) := by rw [← put_dOf]; exact hm3
  have nm : ∀ {b cs t}, BoxC W1 b cs t → b ≠ bm := fun {b cs t} hx e => by
    obtain ⟨es, c, hy, _⟩ := hd.map
    unfold BoxC at hx
    rw [e, hy] at hx; cases hx
  have hfr : RowAt w2.drew f := (hd.rows f hf).off hoffD fun k hk => by
    obtain ⟨es, c, hy, _⟩ := hd.map
    exact (hd.rows f hf).nmap hy hk
  have HR := Lib.hid (hd2.turn hm3 hoff3 (h.ok.ren hf hm) fun g hg => by
    rcases mem_putL.1 hg with rfl | hg
    · exact hfr
    · exact hd2.rows g hg.1)
  have HO := Lib.hid (((Off.of (S := fun k => k = bm) hb).trans hoffD).trans hoff3)
  have FC := Lib.hid (fun W' (o : Off (fun k => k = bm) W1 W') => (⟨(o.box (h0.below hb) (nm (h0.below hb))).cell 0, (o.box (h1.below hb) (nm (h1.below hb))).cell 0, (o.box (h2.below hb) (nm (h2.below hb))).cell 0, (o.box hd.box (nm hd.box)).cell 1, (o.box hN (nm hN)).cell 0, (o.box hN (nm hN)).cell 1⟩ : W'.cell? ⟨b0, 0, none⟩ = some (.pointer (some ⟨p, 0, none⟩)) ∧ W'.cell? ⟨b1, 0, none⟩ = some (.string f.nm) ∧ W'.cell? ⟨b2, 0, none⟩ = some (.string to) ∧ W'.cell? ⟨p, 1, none⟩ = some (.map (some bm)) ∧ W'.cell? ⟨W.heap.size, 0, none⟩ = some (.slice f.ad f.bs.length f.cap) ∧ W'.cell? ⟨W.heap.size, 1, none⟩ = some (.int .i64 f.last)))
  unfold fv at hrun3
  clear h h0 h1 h2 hb hd hm2 ht2 hd2 hm3 ht3 nm hN hfr
  subst hW
  go_enter Try.func95, Try.ntmps95
  go_wp2
  refine wp_region_held_drew (S := (fun X => Off (fun k => k = bm) (W.alloc (.cells #[.slice f.ad f.bs.length f.cap, .int .i64 f.last] 118)).drew X)) (by kernel_rfl) ((Off.refl _ _)) (fun hHeld => ?_)
  refine wpAnyH_take (i := 0) (oi := { dst := some 5, op := Op.load 23 (Operand.tmp 1), type := 23, pos := "disk.go:108", after := #[], guard := none }) (v := ?_) rfl (by kernel_rfl) (by kernel_rfl) (by kernel_rfl) (fun _ _ _ h => h) (Or.inl ⟨by rfl, ?_⟩) (by assumption) ?_
  rotate_left
  · intro W hSw; obtain ⟨a0, a1, a2, a3, a4, a5⟩ := FC.out _ hSw; go_simp; try with_reducible rfl
  try simp only [Act.put, List.setIfInBounds_toArray, List.set_cons_zero, List.set_cons_succ]
  refine wpAnyH_take (i := 1) (oi := { dst := some 6, op := Op.nilCheck (Operand.tmp 5), type := 0, pos := "disk.go:108", after := #[{ on := 0, ground := Ground.data }], guard := none }) (v := ?_) rfl (by kernel_rfl) (by kernel_rfl) (by kernel_rfl) (fun _ _ _ h => h) (Or.inl ⟨by rfl, ?_⟩) (by assumption) ?_
  rotate_left
  · intro W hSw; go_simp; try with_reducible rfl
  try simp only [Act.put, List.setIfInBounds_toArray, List.set_cons_zero, List.set_cons_succ]
  refine wpAnyH_take (i := 2) (oi := { dst := some 7, op := Op.fieldAddr 94 (Operand.tmp 6) 1, type := 0, pos := "disk.go:108", after := #[{ on := 1, ground := Ground.data }], guard := none }) (v := ?_) rfl (by kernel_rfl) (by kernel_rfl) (by kernel_rfl) (fun _ _ _ h => h) (Or.inl ⟨by rfl, ?_⟩) (by assumption) ?_
  rotate_left
  · intro W hSw; go_simp; try with_reducible rfl
  try simp only [Act.put, List.setIfInBounds_toArray, List.set_cons_zero, List.set_cons_succ]
  refine wpAnyH_take (i := 3) (oi := { dst := some 8, op := Op.load 92 (Operand.tmp 7), type := 92, pos := "disk.go:108", after := #[{ on := 2, ground := Ground.data }], guard := none }) (v := ?_) rfl (by kernel_rfl) (by kernel_rfl) (by kernel_rfl) (fun _ _ _ h => h) (Or.inl ⟨by rfl, ?_⟩) (by assumption) ?_
  rotate_left
  · intro W hSw; obtain ⟨a0, a1, a2, a3, a4, a5⟩ := FC.out _ hSw; go_simp; try with_reducible rfl
  try simp only [Act.put, List.setIfInBounds_toArray, List.set_cons_zero, List.set_cons_succ]
  refine wpAnyH_take (i := 4) (oi := { dst := some 9, op := Op.load 9 (Operand.tmp 2), type := 9, pos := "disk.go:108", after := #[], guard := none }) (v := ?_) rfl (by kernel_rfl) (by kernel_rfl) (by kernel_rfl) (fun _ _ _ h => h) (Or.inl ⟨by rfl, ?_⟩) (by assumption) ?_
  rotate_left
  · intro W hSw; obtain ⟨a0, a1, a2, a3, a4, a5⟩ := FC.out _ hSw; go_simp; try with_reducible rfl
  try simp only [Act.put, List.setIfInBounds_toArray, List.set_cons_zero, List.set_cons_succ]
  refine wpAnyH_ready (rs := [5]) (by kernel_rfl) (by simp) ?_
  refine AllReadyH.cons (o := { dst := none, op := Op.call { callee := Callee.builtin Builtin.delete, args := #[Operand.tmp 8, Operand.tmp 9], argTypes := #[92, 9] }, type := 0, pos := "disk.go:108", after := #[{ on := 3, ground := Ground.data }, { on := 4, ground := Ground.data }], guard := none }) rfl (fun K hK => ?_) AllReadyH.nil
  go_simp
  refine hK.out _ _ hoff (fun hHeldn => ?_)
  clear hK K hHeld; have hHeld := hHeldn; clear hHeldn
  try simp only [Act.put, List.setIfInBounds_toArray, List.set_cons_zero, List.set_cons_succ]
  refine wpAnyH_done (by kernel_rfl) ?_ _
  skip
  clear hrun hoff hHeld
  go_wp2
  refine wp_region_held_drew (S := (fun X => Off (fun k => k = bm) w2.drew X)) (by kernel_rfl) ((Off.refl _ _)) (fun hHeld => ?_)
  refine wpAnyH_take (i := 0) (oi := { dst := some 10, op := Op.load 23 (Operand.tmp 1), type := 23, pos := "disk.go:109", after := #[], guard := none }) (v := ?_) rfl (by kernel_rfl) (by kernel_rfl) (by kernel_rfl) (fun _ _ _ h => h) (Or.inl ⟨by rfl, ?_⟩) (by assumption) ?_
  rotate_left
  · intro W hSw; obtain ⟨a0, a1, a2, a3, a4, a5⟩ := FC.out _ (hoffD.trans hSw); go_simp; try with_reducible rfl
  try simp only [Act.put, List.setIfInBounds_toArray, List.set_cons_zero, List.set_cons_succ]
  refine wpAnyH_take (i := 1) (oi := { dst := some 11, op := Op.nilCheck (Operand.tmp 10), type := 0, pos := "disk.go:109", after := #[{ on := 0, ground := Ground.data }], guard := none }) (v := ?_) rfl (by kernel_rfl) (by kernel_rfl) (by kernel_rfl) (fun _ _ _ h => h) (Or.inl ⟨by rfl, ?_⟩) (by assumption) ?_
  rotate_left
  · intro W hSw; go_simp; try with_reducible rfl
  try simp only [Act.put, List.setIfInBounds_toArray, List.set_cons_zero, List.set_cons_succ]
  refine wpAnyH_take (i := 2) (oi := { dst := some 12, op := Op.fieldAddr 94 (Operand.tmp 11) 1, type := 0, pos := "disk.go:109", after := #[{ on := 1, ground := Ground.data }], guard := none }) (v := ?_) rfl (by kernel_rfl) (by kernel_rfl) (by kernel_rfl) (fun _ _ _ h => h) (Or.inl ⟨by rfl, ?_⟩) (by assumption) ?_
  rotate_left
  · intro W hSw; go_simp; try with_reducible rfl
  try simp only [Act.put, List.setIfInBounds_toArray, List.set_cons_zero, List.set_cons_succ]
  refine wpAnyH_take (i := 3) (oi := { dst := some 13, op := Op.load 92 (Operand.tmp 12), type := 92, pos := "disk.go:109", after := #[{ on := 2, ground := Ground.data }], guard := none }) (v := ?_) rfl (by kernel_rfl) (by kernel_rfl) (by kernel_rfl) (fun _ _ _ h => h) (Or.inl ⟨by rfl, ?_⟩) (by assumption) ?_
  rotate_left
  · intro W hSw; obtain ⟨a0, a1, a2, a3, a4, a5⟩ := FC.out _ (hoffD.trans hSw); go_simp; try with_reducible rfl
  try simp only [Act.put, List.setIfInBounds_toArray, List.set_cons_zero, List.set_cons_succ]
  refine wpAnyH_take (i := 4) (oi := { dst := some 14, op := Op.load 9 (Operand.tmp 3), type := 9, pos := "disk.go:109", after := #[], guard := none }) (v := ?_) rfl (by kernel_rfl) (by kernel_rfl) (by kernel_rfl) (fun _ _ _ h => h) (Or.inl ⟨by rfl, ?_⟩) (by assumption) ?_
  rotate_left
  · intro W hSw; obtain ⟨a0, a1, a2, a3, a4, a5⟩ := FC.out _ (hoffD.trans hSw); go_simp; try with_reducible rfl
  try simp only [Act.put, List.setIfInBounds_toArray, List.set_cons_zero, List.set_cons_succ]
  refine wpAnyH_take (i := 5) (oi := { dst := some 15, op := Op.load 118 (Operand.tmp 4), type := 118, pos := "disk.go:109", after := #[], guard := none }) (v := ?_) rfl (by kernel_rfl) (by kernel_rfl) (by kernel_rfl) (fun _ _ _ h => h) (Or.inl ⟨by rfl, ?_⟩) (by assumption) ?_
  rotate_left
  · intro W hSw; obtain ⟨a0, a1, a2, a3, a4, a5⟩ := FC.out _ (hoffD.trans hSw); go_simp; try with_reducible rfl
  try simp only [Act.put, List.setIfInBounds_toArray, List.set_cons_zero, List.set_cons_succ]
  refine wpAnyH_ready (rs := [6]) (by kernel_rfl) (by simp) ?_
  refine AllReadyH.cons (o := { dst := none, op := Op.mapUpdate 92 (Operand.tmp 13) (Operand.tmp 14) (Operand.tmp 15), type := 0, pos := "disk.go:109", after := #[{ on := 3, ground := Ground.data }, { on := 4, ground := Ground.data }, { on := 5, ground := Ground.data }, { on := 0, ground := Ground.phase }, { on := 1, ground := Ground.phase }, { on := 2, ground := Ground.phase }, { on := 3, ground := Ground.phase }, { on := 4, ground := Ground.phase }, { on := 5, ground := Ground.phase }], guard := none }) rfl (fun K hK => ?_) AllReadyH.nil
  go_simp
  refine hK.out _ _ hoff3 (fun hHeldn => ?_)
  clear hK K hHeld; have hHeld := hHeldn; clear hHeldn
  try simp only [Act.put, List.setIfInBounds_toArray, List.set_cons_zero, List.set_cons_succ]
  refine wpAnyH_done (by kernel_rfl) ?_ _
  skip
  clear FC hrun3 hoff3 hoffD hHeld
  go_wp2
  go_end0
  exact ⟨rfl, HR.out, HO.out⟩
set_option maxHeartbeats 1000000 in
theorem dren2_law {w : World} {p bm room : Nat} {L : List Fil} (h : Dk w p bm room L) (f : Fil) (s : ByteArray) (hms : mayB s = true) (hf : look L s = some f) (to : ByteArray) (hm : mayB to = true) (b0 b1 b2 : Nat) (h0 : BoxC w b0 #[.pointer (some ⟨p, 0, none⟩)] 23) (h1 : BoxC w b1 #[.string s] 9) (h2 : BoxC w b2 #[.string to] 9) :
    Calls Try.prog 94 #[.pointer (some ⟨b0, 0, none⟩), .pointer (some ⟨b1, 0, none⟩), .pointer (some ⟨b2, 0, none⟩)] w fun e w' => e = .returned (.int .i64 0) ∧ Dk w' p bm room (putL (renF f to) (delL s L)) ∧ Off (fun k => k = bm) w w' := by
  obtain ⟨hfm, rfl⟩ := look_mem hf
  have HC := Lib.hid (dwith_law h f.nm hms f hf 95 (enters_of Try.func95 (by kernel_rfl) rfl) #[.pointer (some ⟨b0, 0, none⟩), .pointer (some ⟨b1, 0, none⟩), .pointer (some ⟨b2, 0, none⟩)] (fun w' => Dk w' p bm room (putL (renF f to) (delL f.nm L)) ∧ Off (fun k => k = bm) w w')
    fun W b => (dren1_law (h.below b) f hfm to hm _ _ _ (h0.below b) (h1.below b) (h2.below b)).mono fun e w' hh => ⟨hh.1, hh.2.1, (Off.of b).trans hh.2.2⟩)
  have a0 : w.cell? ⟨b0, 0, none⟩ = some (.pointer (some ⟨p, 0, none⟩)) := h0.cell 0
  have a1 : w.cell? ⟨b1, 0, none⟩ = some (.string f.nm) := h1.cell 0
  clear h h0 h1 h2 hf
  go_enter Try.func94, Try.ntmps94
  go_wp2_with fail
  refine HC.out.mono ?_
  rintro e w' ⟨rfl, hR⟩
  have HR := Lib.hid hR
  clear hR
  go_wp2
  go_ret
  exact ⟨rfl, HR.out⟩
set_option maxHeartbeats 1000000 in
theorem dren2_no {w : World} {p bm room : Nat} {L : List Fil} (h : Dk w p bm room L) (s : ByteArray) (hms : mayB s = true) (hf : look L s = none) (b0 b1 b2 : Nat) (h0 : BoxC w b0 #[.pointer (some ⟨p, 0, none⟩)] 23) (h1 : BoxC w b1 #[.string s] 9) :
    Calls Try.prog 94 #[.pointer (some ⟨b0, 0, none⟩), .pointer (some ⟨b1, 0, none⟩), .pointer (some ⟨b2, 0, none⟩)] w fun e w' => e = .returned (.int .i64 6) ∧ Below w.heap.size w w' := by
  have HC := Lib.hid (dwith_no h s hms hf 95 #[.pointer (some ⟨b0, 0, none⟩), .pointer (some ⟨b1, 0, none⟩), .pointer (some ⟨b2, 0, none⟩)])
  have a0 : w.cell? ⟨b0, 0, none⟩ = some (.pointer (some ⟨p, 0, none⟩)) := h0.cell 0
  have a1 : w.cell? ⟨b1, 0, none⟩ = some (.string s) := h1.cell 0
  clear h h0 h1 hf
  go_enter Try.func94, Try.ntmps94
  go_wp2_with fail
  refine HC.out.mono ?_
  rintro e w' ⟨rfl, hR⟩
  have HR := Lib.hid hR
  clear hR
  go_wp2
  go_ret
  exact ⟨rfl, HR.out⟩
theorem Nms.two {W : World} {bn : Nat} {s t : ByteArray} (h : BoxC W bn #[.string s, .string t] 9) : Nms W bn [s, t] := fun k s' hk => by
  rw [h.cell]
  match k, hk with
  | 0, hk => cases hk; rfl
  | 1, hk => cases hk; rfl
  | k + 2, hk => simp at hk
set_option maxHeartbeats 1000000 in
/-- Rename (47). -/
theorem drename_law {w : World} {p bm room : Nat} {L : List Fil} (h : Dk w p bm room L) (s to : ByteArray) (hms : mayB s = true) (hm : mayB to = true) (f : Fil) (hf : look L s = some f) :
    Calls Try.prog 47 #[.pointer (some ⟨p, 0, none⟩), .string s, .string to] w fun e w' => e = .returned (.int .i64 0) ∧ Dk w' p bm room (putL (renF f to) (delL s L)) ∧ Off (fun k => k = bm) w w' := by
  obtain ⟨h0, h1, h2, h3, hb⟩ := boxes4 w #[.pointer (some ⟨p, 0, none⟩)] #[.string s] #[.string to] #[.string s, .string to] 23 9 9 9
  have HC := Lib.hid (dask_law (h.below hb) [s, to] 2 (w.heap.size + 1 + 1 + 1) rfl (by omega) (Nms.two h3) (by simpa using ⟨may_size hms, may_size hm⟩) (by simpa using ⟨hms, hm⟩) 94 (enters_of Try.func94 (by kernel_rfl) rfl) _ (fun _ => 0) (fun w' => Dk w' p bm room (putL (renF f to) (delL s L)) ∧ Off (fun k => k = bm) w w')
    ((dren2_law (h.below hb) f s hms hf to hm _ _ _ h0 h1 h2).mono fun e w' hh => ⟨hh.1, hh.2.1, (Off.of hb).trans hh.2.2⟩))
  clear h h0 h1 h2 h3 hb hf
  go_enter Try.func47, Try.ntmps47
  go_wp2_with fail
  refine HC.out.mono ?_
  rintro e w' ⟨rfl, hR⟩
  have HR := Lib.hid hR
  clear hR
  go_wp2
  go_ret
  exact ⟨rfl, HR.out⟩
set_option maxHeartbeats 1000000 in
theorem drename_no {w : World} {p bm room : Nat} {L : List Fil} (h : Dk w p bm room L) (s to : ByteArray) (hms : mayB s = true) (hm : mayB to = true) (hf : look L s = none) :
    Calls Try.prog 47 #[.pointer (some ⟨p, 0, none⟩), .string s, .string to] w fun e w' => e = .returned (.int .i64 6) ∧ Below w.heap.size w w' := by
  obtain ⟨h0, h1, h2, h3, hb⟩ := boxes4 w #[.pointer (some ⟨p, 0, none⟩)] #[.string s] #[.string to] #[.string s, .string to] 23 9 9 9
  have HC := Lib.hid (dask_law (h.below hb) [s, to] 2 (w.heap.size + 1 + 1 + 1) rfl (by omega) (Nms.two h3) (by simpa using ⟨may_size hms, may_size hm⟩) (by simpa using ⟨hms, hm⟩) 94 (enters_of Try.func94 (by kernel_rfl) rfl) _ (fun _ => 6) (fun w' => Below w.heap.size w w')
    ((dren2_no (h.below hb) s hms hf _ _ (w.heap.size + 1 + 1) h0 h1).mono fun e w' hh => ⟨hh.1, step_below hb hh.2⟩))
  clear h h0 h1 h2 h3 hb hf
  go_enter Try.func47, Try.ntmps47
  go_wp2_with fail
  refine HC.out.mono ?_
  rintro e w' ⟨rfl, hR⟩
  have HR := Lib.hid hR
  clear hR
  go_wp2
  go_ret
  exact ⟨rfl, HR.out⟩
set_option maxHeartbeats 1000000 in
theorem drename_bad {w : World} {p bm room : Nat} {L : List Fil} (h : Dk w p bm room L) (s to : ByteArray) (hs : s.size ≤ maxLen) (ht : to.size ≤ maxLen) (hm : mayB s = false ∨ mayB to = false) :
    Calls Try.prog 47 #[.pointer (some ⟨p, 0, none⟩), .string s, .string to] w fun e w' => e = .returned (.int .i64 2) ∧ Below w.heap.size w w' := by
  obtain ⟨h0, h1, h2, h3, hb⟩ := boxes4 w #[.pointer (some ⟨p, 0, none⟩)] #[.string s] #[.string to] #[.string s, .string to] 23 9 9 9
  have HB := Lib.hid hb
  have HC := Lib.hid (fun v => dask_no (h.below hb) [s, to] 2 (w.heap.size + 1 + 1 + 1) rfl (by omega) (Nms.two h3) (by simpa using ⟨hs, ht⟩) (by simpa using hm) v)
  clear h h0 h1 h2 h3 hb hm
  go_enter Try.func47, Try.ntmps47
  go_wp2_with fail
  refine (HC.out _).mono ?_
  rintro e w' ⟨rfl, rfl⟩
  go_wp2
  go_ret
  exact ⟨rfl, HB.out⟩
end Go.Proofs.Ytbjhcbiihekceaa
