/- Disks: Sync. -/
import Derived.Test.YtbjhcbiihekceaaDkr
namespace Go.Proofs.Ytbjhcbiihekceaa
open Go.ChangeShapes Go.WideShapes Go.ChangeAt Go.RowKit Go.Maps
set_option linter.unusedVariables false
set_option linter.unusedSimpArgs false
theorem pair_of {α : Type} {R : α → α → Prop} (hs : ∀ {a b}, R a b → R b a) : ∀ {L : List α}, L.Pairwise R → ∀ {a b}, a ∈ L → b ∈ L → a ≠ b → R a b
  | [], _, _, _, h, _, _ => absurd h (by simp)
  | c :: r, hp, a, b, ha, hb, hne => by
    obtain ⟨h1, h2⟩ := List.pairwise_cons.1 hp
    rcases List.mem_cons.1 ha with rfl | ha'
    · rcases List.mem_cons.1 hb with rfl | hb'
      · exact absurd rfl hne
      · exact h1 b hb'
    · rcases List.mem_cons.1 hb with rfl | hb'
      · exact hs (h1 a ha')
      · exact pair_of hs h2 ha' hb' hne
theorem delL_cons (s : ByteArray) (g : Fil) (r : List Fil) : delL s (g :: r) = if g.nm = s then delL s r else g :: delL s r := by
  unfold delL
  rw [List.filter_cons]
  by_cases e : g.nm = s <;> simp [e]
theorem sum_del_mem {f : Fil} : ∀ {L : List Fil}, f ∈ L → ((delL f.nm L).map fun f => f.bs.length).sum + f.bs.length ≤ (L.map fun f => f.bs.length).sum
  | g :: r, h => by
    rw [delL_cons, List.map_cons, List.sum_cons]
    rcases List.mem_cons.1 h with rfl | h
    · rw [if_pos rfl]
      have := sum_del f.nm r
      omega
    · have := sum_del_mem h
      split
      · omega
      · rw [List.map_cons, List.sum_cons]; omega
theorem len_del_mem {f : Fil} : ∀ {L : List Fil}, f ∈ L → (delL f.nm L).length + 1 ≤ L.length
  | g :: r, h => by
    rw [delL_cons, List.length_cons]
    rcases List.mem_cons.1 h with rfl | h
    · rw [if_pos rfl]
      have : (delL f.nm r).length ≤ r.length := List.length_filter_le _ _
      omega
    · have := len_del_mem h
      split
      · omega
      · rw [List.length_cons]; omega
theorem Fls.ap {room : Nat} {L : List Fil} (h : Fls room L) {f g : Fil} (hf : f ∈ L) (hg : g ∈ L) (hn : g.nm ≠ f.nm) : f.blk = none ∨ f.blk ≠ g.blk := pair_of (fun h => apart_symm h) h.apart hf hg fun e => hn (by rw [e])
/-- A file whose bytes all last. -/
def syncF (f : Fil) : Fil := { f with last := f.bs.length }
theorem Fls.sync {room : Nat} {L : List Fil} (h : Fls room L) {f : Fil} (hf : f ∈ L) : Fls room (putL (syncF f) L) :=
  h.put (syncF f) (fun g hg => h.ap (f := f) hf (mem_delL.1 hg).1 (mem_delL.1 hg).2) (h.nms f hf) (h.byt f hf) (Nat.le_refl _) (Nat.le_trans (sum_del_mem (f := f) hf) h.used) (Nat.le_trans (len_del_mem (f := f) hf) h.few)
set_option maxHeartbeats 1000000 in
theorem dsync1_law {W : World} {p bm room : Nat} {L : List Fil} (h : Dk W p bm room L) (f : Fil) (hf : f ∈ L) (b0 b1 : Nat) (h0 : BoxC W b0 #[.pointer (some ⟨p, 0, none⟩)] 23) (h1 : BoxC W b1 #[.string f.nm] 9) :
    Calls Try.prog 92 #[.agg #[.slice f.ad f.bs.length f.cap, .int .i64 f.last], .pointer (some ⟨b0, 0, none⟩), .pointer (some ⟨b1, 0, none⟩)] W fun e w' => e = .returned (.tuple #[]) ∧ Dk w' p bm room (putL (syncF f) L) ∧ Off (fun k => k = bm) W w' := by
  have hs := may_size (h.ok.nms f hf)
  obtain ⟨W1, hW⟩ : ∃ W1, (W.alloc (.cells #[.slice f.ad f.bs.length f.cap, .int .i64 f.bs.length] 118)).drew = W1 := ⟨_, rfl⟩
  have hb : Below W.heap.size W W1 := by rw [← hW]; exact (bl1 _ _).drew
  have hd := h.below hb
  have hN : BoxC W1 W.heap.size #[.slice f.ad f.bs.length f.cap, .int .i64 f.bs.length] 118 := by rw [← hW]; exact BoxC.new W _ _
  obtain ⟨w2, hrun, hm2, ht⟩ := hd.map.store law9 Try.underlying92 (Nat.lt_of_le_of_lt h.ok.few (by decide)) (key_of f.nm hs) (RF_fv f.ad f.bs.length f.cap f.bs.length)
  have hoff : Off (fun k => k = bm) W1 w2 := Off.of_map ht.grown rfl
  replace hm2 : w2.ownsMap Try.prog 9 RF bm (L.length + 1) (dOf (putL (syncF f) L)) := by rw [← put_dOf]; exact hm2
  have HR := Lib.hid (hd.turn hm2 hoff (h.ok.sync hf) fun g hg => by
    rcases mem_putL.1 hg with rfl | hg
    · exact hd.rows f hf
    · exact hd.rows g hg.1)
  have HO := Lib.hid ((Off.of (S := fun k => k = bm) hb).trans hoff)
  have nm : ∀ {b cs t}, BoxC W1 b cs t → b ≠ bm := fun {b cs t} hx e => by
    obtain ⟨es, c, hy, _⟩ := hd.map
    unfold BoxC at hx
    rw [e, hy] at hx; cases hx
  have FC := Lib.hid (fun W' (o : Off (fun k => k = bm) W1 W') => (⟨(o.box (h0.below hb) (nm (h0.below hb))).cell 0, (o.box (h1.below hb) (nm (h1.below hb))).cell 0, (o.box hd.box (nm hd.box)).cell 1, (o.box hN (nm hN)).cell 0, (o.box hN (nm hN)).cell 1⟩ : W'.cell? ⟨b0, 0, none⟩ = some (.pointer (some ⟨p, 0, none⟩)) ∧ W'.cell? ⟨b1, 0, none⟩ = some (.string f.nm) ∧ W'.cell? ⟨p, 1, none⟩ = some (.map (some bm)) ∧ W'.cell? ⟨W.heap.size, 0, none⟩ = some (.slice f.ad f.bs.length f.cap) ∧ W'.cell? ⟨W.heap.size, 1, none⟩ = some (.int .i64 f.bs.length)))
  unfold fv at hrun
  clear h h0 h1 hb hd hm2 ht nm hN
  subst hW
  go_enter Try.func92, Try.ntmps92
  go_wp2
  refine wp_region_held_drew (S := (fun X => Off (fun k => k = bm) (W.alloc (.cells #[.slice f.ad f.bs.length f.cap, .int .i64 f.bs.length] 118)).drew X)) (by kernel_rfl) ((Off.refl _ _)) (fun hHeld => ?_)
  refine wpAnyH_take (i := 0) (oi := { dst := some 8, op := Op.load 23 (Operand.tmp 1), type := 23, pos := "disk.go:100", after := #[], guard := none }) (v := ?_) rfl (by kernel_rfl) (by kernel_rfl) (by kernel_rfl) (fun _ _ _ h => h) (Or.inl ⟨by rfl, ?_⟩) (by assumption) ?_
  rotate_left
  · intro W hSw; obtain ⟨a0, a1, a3, a4, a5⟩ := FC.out _ hSw; go_simp; try with_reducible rfl
  try simp only [Act.put, List.setIfInBounds_toArray, List.set_cons_zero, List.set_cons_succ]
  refine wpAnyH_take (i := 1) (oi := { dst := some 9, op := Op.nilCheck (Operand.tmp 8), type := 0, pos := "disk.go:100", after := #[{ on := 0, ground := Ground.data }], guard := none }) (v := ?_) rfl (by kernel_rfl) (by kernel_rfl) (by kernel_rfl) (fun _ _ _ h => h) (Or.inl ⟨by rfl, ?_⟩) (by assumption) ?_
  rotate_left
  · intro W hSw; go_simp; try with_reducible rfl
  try simp only [Act.put, List.setIfInBounds_toArray, List.set_cons_zero, List.set_cons_succ]
  refine wpAnyH_take (i := 2) (oi := { dst := some 10, op := Op.fieldAddr 94 (Operand.tmp 9) 1, type := 0, pos := "disk.go:100", after := #[{ on := 1, ground := Ground.data }], guard := none }) (v := ?_) rfl (by kernel_rfl) (by kernel_rfl) (by kernel_rfl) (fun _ _ _ h => h) (Or.inl ⟨by rfl, ?_⟩) (by assumption) ?_
  rotate_left
  · intro W hSw; go_simp; try with_reducible rfl
  try simp only [Act.put, List.setIfInBounds_toArray, List.set_cons_zero, List.set_cons_succ]
  refine wpAnyH_take (i := 3) (oi := { dst := some 11, op := Op.load 92 (Operand.tmp 10), type := 92, pos := "disk.go:100", after := #[{ on := 2, ground := Ground.data }], guard := none }) (v := ?_) rfl (by kernel_rfl) (by kernel_rfl) (by kernel_rfl) (fun _ _ _ h => h) (Or.inl ⟨by rfl, ?_⟩) (by assumption) ?_
  rotate_left
  · intro W hSw; obtain ⟨a0, a1, a3, a4, a5⟩ := FC.out _ hSw; go_simp; try with_reducible rfl
  try simp only [Act.put, List.setIfInBounds_toArray, List.set_cons_zero, List.set_cons_succ]
  refine wpAnyH_take (i := 4) (oi := { dst := some 12, op := Op.load 9 (Operand.tmp 2), type := 9, pos := "disk.go:100", after := #[], guard := none }) (v := ?_) rfl (by kernel_rfl) (by kernel_rfl) (by kernel_rfl) (fun _ _ _ h => h) (Or.inl ⟨by rfl, ?_⟩) (by assumption) ?_
  rotate_left
  · intro W hSw; obtain ⟨a0, a1, a3, a4, a5⟩ := FC.out _ hSw; go_simp; try with_reducible rfl
  try simp only [Act.put, List.setIfInBounds_toArray, List.set_cons_zero, List.set_cons_succ]
  refine wpAnyH_take (i := 5) (oi := { dst := some 13, op := Op.load 118 (Operand.tmp 3), type := 118, pos := "disk.go:100", after := #[], guard := none }) (v := ?_) rfl (by kernel_rfl) (by kernel_rfl) (by kernel_rfl) (fun _ _ _ h => h) (Or.inl ⟨by rfl, ?_⟩) (by assumption) ?_
  rotate_left
  · intro W hSw; obtain ⟨a0, a1, a3, a4, a5⟩ := FC.out _ hSw; go_simp; try with_reducible rfl
  try simp only [Act.put, List.setIfInBounds_toArray, List.set_cons_zero, List.set_cons_succ]
  refine wpAnyH_ready (rs := [6]) (by kernel_rfl) (by simp) ?_
  refine AllReadyH.cons (o := { dst := none, op := Op.mapUpdate 92 (Operand.tmp 11) (Operand.tmp 12) (Operand.tmp 13), type := 0, pos := "disk.go:100", after := #[{ on := 3, ground := Ground.data }, { on := 4, ground := Ground.data }, { on := 5, ground := Ground.data }, { on := 0, ground := Ground.phase }, { on := 1, ground := Ground.phase }, { on := 2, ground := Ground.phase }, { on := 3, ground := Ground.phase }, { on := 4, ground := Ground.phase }, { on := 5, ground := Ground.phase }], guard := none }) rfl (fun K hK => ?_) AllReadyH.nil
  go_simp
  refine hK.out _ _ hoff (fun hHeldn => ?_)
  clear hK K hHeld; have hHeld := hHeldn; clear hHeldn
  try simp only [Act.put, List.setIfInBounds_toArray, List.set_cons_zero, List.set_cons_succ]
  refine wpAnyH_done (by kernel_rfl) ?_ _
  skip
  clear FC hrun hoff hHeld
  go_wp2
  go_end0
  exact ⟨rfl, HR.out, HO.out⟩
set_option maxHeartbeats 1000000 in
/-- Sync (45). -/
theorem dsync_law {w : World} {p bm room : Nat} {L : List Fil} (h : Dk w p bm room L) (s : ByteArray) (hm : mayB s = true) (f : Fil) (hf : look L s = some f) :
    Calls Try.prog 45 #[.pointer (some ⟨p, 0, none⟩), .string s] w fun e w' => e = .returned (.int .i64 0) ∧ Dk w' p bm room (putL (syncF f) L) ∧ Off (fun k => k = bm) w w' := by
  obtain ⟨hfm, rfl⟩ := look_mem hf
  obtain ⟨h0, h1, hb⟩ := boxes2 w #[.pointer (some ⟨p, 0, none⟩)] #[.string f.nm] 23 9
  have HC := Lib.hid (dwith_law (h.below hb) f.nm hm f hf 92 (enters_of Try.func92 (by kernel_rfl) rfl) #[.pointer (some ⟨w.heap.size, 0, none⟩), .pointer (some ⟨w.heap.size + 1, 0, none⟩)] (fun w' => Dk w' p bm room (putL (syncF f) L) ∧ Off (fun k => k = bm) w w')
    fun W b => (dsync1_law ((h.below hb).below b) f hfm _ _ (h0.below b) (h1.below b)).mono fun e w' hh => ⟨hh.1, hh.2.1, (Off.of (step_below hb b)).trans hh.2.2⟩)
  clear h h0 h1 hb hf
  go_enter Try.func45, Try.ntmps45
  go_wp2_with fail
  refine HC.out.mono ?_
  rintro e w' ⟨rfl, hR⟩
  have HR := Lib.hid hR
  clear hR
  go_wp2
  go_ret
  exact ⟨rfl, HR.out⟩
set_option maxHeartbeats 1000000 in
theorem dsync_no {w : World} {p bm room : Nat} {L : List Fil} (h : Dk w p bm room L) (s : ByteArray) (hs : s.size ≤ maxLen) (k : Nat) (hk : (mayB s = true ∧ look L s = none ∧ k = 6) ∨ (mayB s = false ∧ k = 2)) :
    Calls Try.prog 45 #[.pointer (some ⟨p, 0, none⟩), .string s] w fun e w' => e = .returned (.int .i64 k) ∧ Below w.heap.size w w' := by
  obtain ⟨h0, h1, hb⟩ := boxes2 w #[.pointer (some ⟨p, 0, none⟩)] #[.string s] 23 9
  have HB := Lib.hid hb
  have HC := Lib.hid (by
    rcases hk with ⟨h1, h2, rfl⟩ | ⟨h1, rfl⟩
    · exact dwith_no (h.below hb) s h1 h2 92 _
    · exact dwith_bad (h.below hb) s hs h1 92 _ : Calls Try.prog 64 #[.pointer (some ⟨p, 0, none⟩), .string s, .func (.func 92) #[] #[.pointer (some ⟨w.heap.size, 0, none⟩), .pointer (some ⟨w.heap.size + 1, 0, none⟩)]] ((w.alloc (.cells #[.pointer (some ⟨p, 0, none⟩)] 23)).alloc (.cells #[.string s] 9)) fun e w' => e = .returned (.int .i64 k) ∧ Below ((w.alloc (.cells #[.pointer (some ⟨p, 0, none⟩)] 23)).alloc (.cells #[.string s] 9)).heap.size ((w.alloc (.cells #[.pointer (some ⟨p, 0, none⟩)] 23)).alloc (.cells #[.string s] 9)) w')
  clear h h0 h1 hb hk
  go_enter Try.func45, Try.ntmps45
  go_wp2_with fail
  refine HC.out.mono ?_
  rintro e w' ⟨rfl, hR⟩
  have HR := Lib.hid (step_below HB.out hR)
  clear hR
  go_wp2
  go_ret
  exact ⟨rfl, HR.out⟩
end Go.Proofs.Ytbjhcbiihekceaa
