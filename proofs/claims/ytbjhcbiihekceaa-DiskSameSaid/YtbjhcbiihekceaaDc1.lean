/- Disks: Copy. -/
import Derived.Test.YtbjhcbiihekceaaDkz
namespace Go.Proofs.Ytbjhcbiihekceaa
open Go.ChangeShapes Go.WideShapes Go.ChangeAt Go.RowKit Go.Maps
set_option linter.unusedVariables false
set_option linter.unusedSimpArgs false
theorem dk_new (w : World) (room : Nat) (h1 : 1024 ≤ room) (h2 : room ≤ 1048576) : Dk ((w.alloc (.map #[] 0)).alloc (.cells #[.int .i64 room, .map (some w.heap.size)] 94)).drew (w.heap.size + 1) w.heap.size room [] := by
  refine ⟨?_, ?_, by simp, ⟨List.Pairwise.nil, by simp, by simp, by simp, by simp, by simp⟩, h1, h2⟩
  · have := BoxC.new (w.alloc (.map #[] 0)) #[.int .i64 room, .map (some w.heap.size)] 94
    simp only [World.size_alloc] at this
    exact this
  · exact (World.ownsMap_made w Try.prog 9 RF).alloc _
/-- A file whose bytes lie elsewhere. -/
def cpF (f : Fil) (a : Option Addr) (c : Nat) : Fil := { f with ad := a, cap := c }
def core (f : Fil) : ByteArray × List Int × Nat := (f.nm, f.bs, f.last)
def one (f : Fil) : Fil := { f with bs := [0] }
theorem own_row {W : World} {base c : Nat} {f : Fil} {a : Option Addr} (h : W.ownsRow base 5 1 (.slice a f.bs.length c) f.bs.length (iv .u8 f.bs)) : RowAt W (cpF f a c) ∧ ((cpF f a c).blk = none ∨ ∃ g, base ≤ g ∧ (cpF f a c).blk = some g) := by
  rcases h.2 with ⟨hv, h0⟩ | ⟨g, cap, cur, hv, hg, hc, h1, h2, h3, h4⟩
  · injection hv with e1 e2 e3
    subst e1 e3
    exact ⟨Or.inl ⟨rfl, List.length_eq_zero_iff.1 h0⟩, Or.inl rfl⟩
  · injection hv with e1 e2 e3
    subst e1 e3
    by_cases hc0 : c = 0
    · subst hc0
      exact ⟨Or.inl ⟨rfl, List.length_eq_zero_iff.1 (show f.bs.length = 0 by omega)⟩, Or.inl rfl⟩
    · have h5 : cur.toList.take f.bs.length = iv .u8 f.bs := by simpa using h4
      have := row_at (w := W) (f := cpF f (some ⟨g, 0, none⟩) c) g c cur (by omega) rfl rfl hc h1 (by omega) h2 h5
      exact ⟨this.1, Or.inr ⟨g, hg, this.2⟩⟩
theorem delL_same {s : ByteArray} {L : List Fil} (h : ∀ x ∈ L, x.nm ≠ s) : delL s L = L := List.filter_eq_self.2 fun x hx => by simp [h x hx]
/-- What has been copied: just the files that are not left. -/
structure CopyOf (left : Lit → Bool) (L Lc : List Fil) : Prop where
  mem : ∀ c, c ∈ Lc.map core ↔ ∃ f ∈ L, left f.key = false ∧ core f = c
  sum : (Lc.map fun f => f.bs.length).sum = leftSum left L
  len : Lc.length = leftSum left (L.map one)
theorem CopyOf.new {left : Lit → Bool} {L Lc : List Fil} (h : CopyOf left L Lc) {f : Fil} (hl : left f.key = true) : ∀ x ∈ Lc, x.nm ≠ f.nm := fun x hx e => by
  obtain ⟨g, hg, h1, h2⟩ := (h.mem (core x)).1 (List.mem_map.2 ⟨x, hx, rfl⟩)
  have : g.key = f.key := by unfold Fil.key; rw [show g.nm = x.nm from congrArg (·.1) h2, e]
  rw [this, hl] at h1; cases h1
theorem CopyOf.start (L : List Fil) : CopyOf (Maps.has (dOf L)) L [] := by
  have hk : ∀ f ∈ L, Maps.has (dOf L) f.key = true := fun f hf => by
    show Maps.has (dOf L) (.string f.nm.data.toList) = true
    rw [has_dOf, look, List.find?_isSome]
    exact ⟨f, hf, by simp⟩
  refine ⟨fun c => ⟨fun h => absurd h (by simp), fun ⟨f, hf, h1, _⟩ => ?_⟩, (leftSum_start L).symm, (leftSum_all fun f hf => ?_).symm⟩
  · rw [hk f hf] at h1; cases h1
  · obtain ⟨g, hg, rfl⟩ := List.mem_map.1 hf
    exact hk g hg
theorem sum_put {f : Fil} {L : List Fil} (h : ∀ x ∈ L, x.nm ≠ f.nm) : ((putL f L).map fun f => f.bs.length).sum = (L.map fun f => f.bs.length).sum + f.bs.length := by
  unfold putL
  rw [delL_same h, ((perm_insL f L).map fun f => f.bs.length).sum_nat, List.map_cons, List.sum_cons]; omega
theorem CopyOf.step {left : Lit → Bool} {L Lc : List Fil} (h : CopyOf left L Lc) (hp : L.Pairwise fun f g => f.key ≠ g.key) {f : Fil} (hf : f ∈ L) (hl : left f.key = true) (a : Option Addr) (c : Nat) : CopyOf (fun z => left z && !z.sameKey f.key) L (putL (cpF f a c) Lc) := by
  have hn := h.new hl
  refine ⟨fun x => ?_, ?_, ?_⟩
  · have hm : x ∈ (putL (cpF f a c) Lc).map core ↔ x = core f ∨ x ∈ Lc.map core := by
      unfold putL
      rw [delL_same (s := (cpF f a c).nm) hn, ((perm_insL (cpF f a c) Lc).map core).mem_iff, List.map_cons, List.mem_cons]
      rfl
    rw [hm, h.mem]
    constructor
    · rintro (rfl | ⟨g, hg, h1, h2⟩)
      · refine ⟨f, hf, ?_, rfl⟩
        have h4 : f.key.sameKey f.key = true := (key_same f f.nm).trans (by simp)
        simp [h4]
      · exact ⟨g, hg, by simp [h1], h2⟩
    · rintro ⟨g, hg, h1, h2⟩
      by_cases e : g = f
      · subst e; exact Or.inl h2.symm
      · have := Maps.sameKey_ne (pair_of (fun h => Ne.symm h) hp hg hf e)
        simp [this] at h1
        exact Or.inr ⟨g, hg, h1, h2⟩
  · rw [sum_put (f := cpF f a c) hn, h.sum, leftSum_step hl hp hf]
    rfl
  · have h1 := leftSum_step (left := left) (f := one f) (L := L.map one) hl (List.pairwise_map.2 hp) (List.mem_map.2 ⟨f, hf, rfl⟩)
    have h2 : (putL (cpF f a c) Lc).length = Lc.length + 1 := by
      unfold putL
      rw [delL_same (s := (cpF f a c).nm) hn, (perm_insL (cpF f a c) Lc).length_eq, List.length_cons]
    rw [h2, h.len]
    exact h1.symm
theorem sum_one : ∀ L : List Fil, ((L.map one).map fun f => f.bs.length).sum = L.length
  | [] => rfl
  | g :: r => by rw [List.map_cons, List.map_cons, List.sum_cons, sum_one r, List.length_cons]; show 1 + _ = _; omega
/-- A file's copy is put into the new disk. -/
theorem copy_step {W : World} {p bm room base : Nat} {Lc L : List Fil} {left : Lit → Bool} (hd : Dk W p bm room Lc) (hL : Fls room L) (hp : L.Pairwise fun f g => f.key ≠ g.key) (hC : CopyOf left L Lc) {f : Fil} (hf : f ∈ L) (hl : left f.key = true) {a : Option Addr} {c : Nat} (ho : W.ownsRow base 5 1 (.slice a f.bs.length c) f.bs.length (iv .u8 f.bs)) (hbase : ∀ k, Own p bm Lc k → k < base) :
    ∃ w8, (Instr.mapUpdate 92 (.map (some bm)) (.string f.nm) (.agg #[.slice a f.bs.length c, .int .i64 f.last])).run Try.prog W = .ok () w8 ∧ Off (fun k => k = bm) W w8 ∧ Dk w8 p bm room (putL (cpF f a c) Lc) ∧ (∀ k, Own p bm (putL (cpF f a c) Lc) k → Own p bm Lc k ∨ base ≤ k) := by
  have hn := hC.new hl
  have hs := may_size (hL.nms f hf)
  obtain ⟨hr, hk⟩ := own_row ho
  obtain ⟨w8, hrun, hm2, ht⟩ := hd.map.store law9 Try.underlying92 (Nat.lt_of_le_of_lt hd.ok.few (by decide)) (key_of f.nm hs) (RF_fv a f.bs.length c f.last)
  have hoff : Off (fun k => k = bm) W w8 := Off.of_map ht.grown rfl
  replace hm2 : w8.ownsMap Try.prog 9 RF bm (Lc.length + 1) (dOf (putL (cpF f a c) Lc)) := by rw [← put_dOf]; exact hm2
  have hC' := hC.step hp hf hl a c
  have hsum : (Lc.map fun f => f.bs.length).sum + f.bs.length ≤ room := by
    have h1 := hC'.sum
    rw [sum_put (f := cpF f a c) hn] at h1
    have h2 := leftSum_le (fun z => left z && !z.sameKey f.key) L
    have h3 := hL.used
    have h4 : (cpF f a c).bs.length = f.bs.length := rfl
    omega
  have hlen : Lc.length + 1 ≤ 64 := by
    have h1 := leftSum_step (left := left) (f := one f) (L := L.map one) hl (List.pairwise_map.2 hp) (List.mem_map.2 ⟨f, hf, rfl⟩)
    have h2 := leftSum_le (fun z => left z && !z.sameKey f.key) (L.map one)
    rw [sum_one] at h2
    have h3 := hC.len
    have h4 := hL.few
    have h5 : (one f).bs.length = 1 := rfl
    have h6 : (one f).key = f.key := rfl
    rw [h5, h6] at h1
    omega
  refine ⟨w8, hrun, hoff, hd.turn hm2 hoff (hd.ok.put (cpF f a c) (fun g hg => ?_) (hL.nms f hf) (hL.byt f hf) (hL.lasts f hf) ?_ ?_) (fun g hg => ?_), fun k hk' => ?_⟩
  · rcases hk with e | ⟨x, hx, e⟩
    · exact Or.inl e
    · refine Or.inr fun e2 => ?_
      rw [e] at e2
      have := hbase x (Or.inr (Or.inr ⟨g, (mem_delL.1 hg).1, e2.symm⟩))
      omega
  · rw [delL_same (s := (cpF f a c).nm) hn]; exact hsum
  · rw [delL_same (s := (cpF f a c).nm) hn]; exact hlen
  · rcases mem_putL.1 hg with rfl | hg
    · exact hr
    · exact hd.rows g hg.1
  · rcases hk' with e | e | ⟨g, hg, e⟩
    · exact Or.inl (Or.inl e)
    · exact Or.inl (Or.inr (Or.inl e))
    · rcases mem_putL.1 hg with rfl | hg
      · rcases hk with e2 | ⟨x, hx, e2⟩
        · rw [e2] at e; cases e
        · rw [e2] at e; cases e; exact Or.inr hx
      · exact Or.inl (Or.inr (Or.inr ⟨g, hg.1, e⟩))
set_option maxHeartbeats 4000000 in
/-- Copy (55). -/
theorem dcopy_law {w : World} {p bm room : Nat} {L : List Fil} (h : Dk w p bm room L) : Calls Try.prog 55 #[.pointer (some ⟨p, 0, none⟩)] w fun e w' => ∃ Lc, e = .returned (.pointer (some ⟨w.heap.size + 1, 0, none⟩)) ∧ Dk w' (w.heap.size + 1) w.heap.size room Lc ∧ (∀ c, c ∈ Lc.map core ↔ c ∈ L.map core) ∧ (∀ k, Own (w.heap.size + 1) w.heap.size Lc k → w.heap.size ≤ k) ∧ Below w.heap.size w w' := by
  have HH := Lib.hid h
  have FG := Lib.hid (fun W (b : Below w.heap.size w W) => (by
    have hl := (h.below b).map.len Try.underlying92 3
    rw [size_dOf] at hl
    exact ⟨(h.below b).c0, (h.below b).c1, hl⟩ : W.cell? ⟨p, 0, none⟩ = some (.int .i64 room) ∧ W.cell? ⟨p, 1, none⟩ = some (.map (some bm)) ∧ (Builtin.len_ #[92] 3 #[.map (some bm)]).run Try.prog W = .ok (.int .i64 L.length) W))
  have hfew := h.ok.few
  have hm2 : ∀ W : World, (Instr.makeMap 92 (some (.int .i64 L.length))).run Try.prog W = .ok (.map (some W.heap.size)) (W.alloc (.map #[] 0)) := fun W => by
    simp [Instr.makeMap, run_underlying Try.underlying92, asInt, newObj, go_sem]
    try rfl
  have HN0 := Lib.hid (dk_new w room h.lo h.hi)
  have hbl : Below w.heap.size w ((w.alloc (.map #[] 0)).alloc (.cells #[.int .i64 room, .map (some w.heap.size)] 94)).drew := (step_below (bl1 _ _) (bl1 _ _)).drew
  have hsz : ((w.alloc (.map #[] 0)).alloc (.cells #[.int .i64 room, .map (some w.heap.size)] 94)).drew.heap.size = w.heap.size + 2 := by simp [World.drew]
  have HAP := Lib.hid h.apart
  clear h
  go_enter Try.func55, Try.ntmps55
  go_wp2_with (go_at_call 58; refine (dnone_law HH.out).mono ?_; rintro e w' ⟨rfl, rfl⟩)
  refine wp_region_held_drew (S := (fun X => Below w.heap.size w X)) (by kernel_rfl) ((Below.refl _ _).drew) (fun hHeld => ?_)
  refine wpAnyH_take (i := 0) (oi := { dst := some 8, op := Op.move (Operand.tmp 0), type := 23, pos := "disk.go:206", after := #[], guard := none }) (v := ?_) rfl (by kernel_rfl) (by kernel_rfl) (by kernel_rfl) (fun _ _ _ h => h) (Or.inl ⟨by rfl, ?_⟩) (by assumption) ?_
  rotate_left
  · intro W hSw; go_simp; try with_reducible rfl
  try simp only [Act.put, List.setIfInBounds_toArray, List.set_cons_zero, List.set_cons_succ]
  refine wpAnyH_take (i := 1) (oi := { dst := some 9, op := Op.nilCheck (Operand.tmp 8), type := 0, pos := "disk.go:206", after := #[{ on := 0, ground := Ground.data }], guard := none }) (v := ?_) rfl (by kernel_rfl) (by kernel_rfl) (by kernel_rfl) (fun _ _ _ h => h) (Or.inl ⟨by rfl, ?_⟩) (by assumption) ?_
  rotate_left
  · intro W hSw; go_simp; try with_reducible rfl
  try simp only [Act.put, List.setIfInBounds_toArray, List.set_cons_zero, List.set_cons_succ]
  refine wpAnyH_take (i := 2) (oi := { dst := some 10, op := Op.fieldAddr 94 (Operand.tmp 9) 0, type := 0, pos := "disk.go:206", after := #[{ on := 1, ground := Ground.data }], guard := none }) (v := ?_) rfl (by kernel_rfl) (by kernel_rfl) (by kernel_rfl) (fun _ _ _ h => h) (Or.inl ⟨by rfl, ?_⟩) (by assumption) ?_
  rotate_left
  · intro W hSw; go_simp; try with_reducible rfl
  try simp only [Act.put, List.setIfInBounds_toArray, List.set_cons_zero, List.set_cons_succ]
  refine wpAnyH_take (i := 3) (oi := { dst := some 11, op := Op.load 3 (Operand.tmp 10), type := 3, pos := "disk.go:206", after := #[{ on := 2, ground := Ground.data }], guard := none }) (v := ?_) rfl (by kernel_rfl) (by kernel_rfl) (by kernel_rfl) (fun _ _ _ h => h) (Or.inl ⟨by rfl, ?_⟩) (by assumption) ?_
  rotate_left
  · intro W hSw; obtain ⟨a0, a1, a2⟩ := FG.out W hSw; go_simp; try with_reducible rfl
  try simp only [Act.put, List.setIfInBounds_toArray, List.set_cons_zero, List.set_cons_succ]
  refine wpAnyH_take (i := 4) (oi := { dst := some 12, op := Op.move (Operand.tmp 0), type := 23, pos := "disk.go:206", after := #[], guard := none }) (v := ?_) rfl (by kernel_rfl) (by kernel_rfl) (by kernel_rfl) (fun _ _ _ h => h) (Or.inl ⟨by rfl, ?_⟩) (by assumption) ?_
  rotate_left
  · intro W hSw; go_simp; try with_reducible rfl
  try simp only [Act.put, List.setIfInBounds_toArray, List.set_cons_zero, List.set_cons_succ]
  refine wpAnyH_take (i := 5) (oi := { dst := some 13, op := Op.nilCheck (Operand.tmp 12), type := 0, pos := "disk.go:206", after := #[{ on := 4, ground := Ground.data }], guard := none }) (v := ?_) rfl (by kernel_rfl) (by kernel_rfl) (by kernel_rfl) (fun _ _ _ h => h) (Or.inl ⟨by rfl, ?_⟩) (by assumption) ?_
  rotate_left
  · intro W hSw; go_simp; try with_reducible rfl
  try simp only [Act.put, List.setIfInBounds_toArray, List.set_cons_zero, List.set_cons_succ]
  refine wpAnyH_take (i := 6) (oi := { dst := some 14, op := Op.fieldAddr 94 (Operand.tmp 13) 1, type := 0, pos := "disk.go:206", after := #[{ on := 5, ground := Ground.data }], guard := none }) (v := ?_) rfl (by kernel_rfl) (by kernel_rfl) (by kernel_rfl) (fun _ _ _ h => h) (Or.inl ⟨by rfl, ?_⟩) (by assumption) ?_
  rotate_left
  · intro W hSw; go_simp; try with_reducible rfl
  try simp only [Act.put, List.setIfInBounds_toArray, List.set_cons_zero, List.set_cons_succ]
  refine wpAnyH_take (i := 7) (oi := { dst := some 15, op := Op.load 92 (Operand.tmp 14), type := 92, pos := "disk.go:206", after := #[{ on := 6, ground := Ground.data }], guard := none }) (v := ?_) rfl (by kernel_rfl) (by kernel_rfl) (by kernel_rfl) (fun _ _ _ h => h) (Or.inl ⟨by rfl, ?_⟩) (by assumption) ?_
  rotate_left
  · intro W hSw; obtain ⟨a0, a1, a2⟩ := FG.out W hSw; go_simp; try with_reducible rfl
  try simp only [Act.put, List.setIfInBounds_toArray, List.set_cons_zero, List.set_cons_succ]
  refine wpAnyH_take (i := 8) (oi := { dst := some 16, op := Op.call { callee := Callee.builtin Builtin.len, args := #[Operand.tmp 15], argTypes := #[92] }, type := 3, pos := "disk.go:206", after := #[{ on := 7, ground := Ground.data }], guard := none }) (v := ?_) rfl (by kernel_rfl) (by kernel_rfl) (by kernel_rfl) (fun _ _ _ h => h) (Or.inl ⟨by rfl, ?_⟩) (by assumption) ?_
  rotate_left
  · intro W hSw; obtain ⟨a0, a1, a2⟩ := FG.out W hSw; go_simp; try with_reducible rfl
  try simp only [Act.put, List.setIfInBounds_toArray, List.set_cons_zero, List.set_cons_succ]
  refine wpAnyH_ready (rs := [9]) (by kernel_rfl) (by simp) ?_
  refine AllReadyH.cons (o := { dst := some 17, op := Op.makeMap 92 (some (Operand.tmp 16)), type := 92, pos := "disk.go:206", after := #[{ on := 8, ground := Ground.data }], guard := none }) rfl (fun K hK => ?_) AllReadyH.nil
  go_simp
  refine hK.out _ _ (step_below ((Below.refl _ _).drew) (bl1 _ _)) (fun hHeldn => ?_)
  clear hK K hHeld; have hHeld := hHeldn; clear hHeldn
  try simp only [Act.put, List.setIfInBounds_toArray, List.set_cons_zero, List.set_cons_succ]
  refine wpAnyH_take (i := 10) (oi := { dst := some 18, op := Op.build 94 #[(0, Operand.tmp 11), (1, Operand.tmp 17)], type := 94, pos := "disk.go:206", after := #[{ on := 3, ground := Ground.data }, { on := 9, ground := Ground.data }], guard := none }) (v := ?_) rfl (by kernel_rfl) (by kernel_rfl) (by kernel_rfl) (fun _ _ _ h => h) (Or.inl ⟨by rfl, ?_⟩) (by assumption) ?_
  rotate_left
  · intro W hSw; go_simp; try with_reducible rfl
  try simp only [Act.put, List.setIfInBounds_toArray, List.set_cons_zero, List.set_cons_succ]
  refine wpAnyH_ready (rs := [11]) (by kernel_rfl) (by simp) ?_
  refine AllReadyH.cons (o := { dst := some 19, op := Op.box 94 (Operand.tmp 18), type := 23, pos := "disk.go:206", after := #[{ on := 10, ground := Ground.data }], guard := none }) rfl (fun K hK => ?_) AllReadyH.nil
  go_simp
  refine hK.out _ _ (step_below (step_below ((Below.refl _ _).drew) (bl1 _ _)) (bl1 _ _)) (fun hHeldn => ?_)
  clear hK K hHeld; have hHeld := hHeldn; clear hHeldn
  try simp only [Act.put, List.setIfInBounds_toArray, List.set_cons_zero, List.set_cons_succ]
  refine wpAnyH_take (i := 12) (oi := { dst := some 3, op := Op.assign (Operand.tmp 19), type := 23, pos := "disk.go:206", after := #[{ on := 11, ground := Ground.data }, { on := 8, ground := Ground.chain }, { on := 0, ground := Ground.phase }, { on := 1, ground := Ground.phase }, { on := 2, ground := Ground.phase }, { on := 3, ground := Ground.phase }, { on := 4, ground := Ground.phase }, { on := 5, ground := Ground.phase }, { on := 6, ground := Ground.phase }, { on := 7, ground := Ground.phase }, { on := 8, ground := Ground.phase }, { on := 9, ground := Ground.phase }, { on := 10, ground := Ground.phase }, { on := 11, ground := Ground.phase }], guard := none }) (v := ?_) rfl (by kernel_rfl) (by kernel_rfl) (by kernel_rfl) (fun _ _ _ h => h) (Or.inl ⟨by rfl, ?_⟩) (by assumption) ?_
  rotate_left
  · intro W hSw; go_simp; try with_reducible rfl
  try simp only [Act.put, List.setIfInBounds_toArray, List.set_cons_zero, List.set_cons_succ]
  refine wpAnyH_done (by kernel_rfl) ?_ _
  skip
  clear hHeld
  generalize ((w.alloc (.map #[] 0)).alloc (.cells #[.int .i64 room, .map (some w.heap.size)] 94)).drew = W3 at HN0 hbl hsz ⊢
  have hsz1 : W3.heap.size ≤ w.heap.size + 2 := by omega
  have hsz2 : w.heap.size + 2 ≤ W3.heap.size := by omega
  clear hsz
  have n1 := (FG.out W3 hbl).2.1
  have HM := Lib.hid (HH.out.below hbl).map
  have HBL := Lib.hid hbl
  clear hbl hm2
  go_wp2_with (first
    | (at_range; refine wpList_range_own _ rfl _ 92 rfl 9 118 law9 Try.underlying92 RF bm L.length (dOf L) rfl HM.out ?_; intro w0 hrg0 hg0 hs0))
  have HR := Lib.hid hrg0
  have HG := Lib.hid (show Below W3.heap.size W3 w0 from ⟨hg0.os, hg0.tape, hg0.output, hg0.size, fun k hk => hg0.block k hk (by simp)⟩)
  have HS := Lib.hid hs0
  clear hrg0 hg0 hs0 n1
  go_frame
  go_loopw [25] (fun _ wr => ∃ (left : Lit → Bool) (cnt : Nat) (Lc : List Fil), wr.ranges Try.prog 9 RF bm W3.heap.size L.length (dOf L) left cnt ∧ Dk wr (w.heap.size + 1) w.heap.size room Lc ∧ CopyOf left L Lc ∧ Below w.heap.size w wr ∧ (∀ k, Own (w.heap.size + 1) w.heap.size Lc k → w.heap.size ≤ k ∧ k ≠ W3.heap.size) ∧ W3.heap.size < wr.heap.size)
    (fun _ wr => wr.rangeLeft bm W3.heap.size)
  case atStart =>
    refine ⟨_, _, [], HR.out, HN0.out.below HG.out, CopyOf.start L, step_below HBL.out HG.out, fun k hk => ?_, by rw [HS.out]; omega⟩
    rcases hk with rfl | rfl | ⟨f, hf, _⟩
    · omega
    · omega
    · cases hf
  case round =>
    obtain ⟨left, cnt, Lc, hrg, hdk, hco, hbw, how, hsz3⟩ := hrel
    have hrgH := Lib.hid hrg
    have HD := Lib.hid hdk
    have HC := Lib.hid hco
    have HBW := Lib.hid hbw
    have HOW := Lib.hid how
    clear hdk hco hbw how
    go_wp2_with (first
      | (at_next; refine next_disk rfl _ rfl bm W3.heap.size L.length L left cnt rfl hrg ?_ ?_)
      | go_in)
    · intro _ hl0
      clear hrg
      have hE := Lib.hid hl0
      clear hl0
      go_wp2
      go_ret
      refine ⟨Lc, rfl, HD.out, fun c => (HC.out.mem c).trans ?_, fun k hk => (HOW.out k hk).1, HBW.out⟩
      rw [List.mem_map]
      exact ⟨fun ⟨f, hf, _, e⟩ => ⟨f, hf, e⟩, fun ⟨f, hf, e⟩ => ⟨f, hf, hE.out _, e⟩⟩
    · intro f w1 cnt1 hfm hlx hrg1 hlt hg1 hs1 hen
      have hd1 : Dk w1 (w.heap.size + 1) w.heap.size room Lc := HD.out.off (S := fun k => k = W3.heap.size) ⟨hg1.os, hg1.tape, hg1.output, hg1.size, fun k hk hn => hg1.block k hk (fun e => hn (Option.some.inj e))⟩ fun k hk e => (HOW.out k hk).2 e
      have hb1 : Below w.heap.size w w1 := HBW.out.grown hg1 (by omega) (fun j hj => by cases hj; omega)
      have hfv : f.v = .agg #[.slice f.ad f.bs.length f.cap, .int .i64 f.last] := rfl
      rw [hfv] at hen ⊢
      have hs1a : wr.heap.size ≤ w1.heap.size := by omega
      clear hs1
      have hlen : f.bs.length ≤ 1048576 := Nat.le_trans (le_sum hfm) (Nat.le_trans HH.out.ok.used HH.out.hi)
      obtain ⟨W6, hW6⟩ : ∃ W6, w1.alloc (.cells #[.slice f.ad f.bs.length f.cap, .int .i64 f.last] 118) = W6 := ⟨_, rfl⟩
      have hb6 : Below w1.heap.size w1 W6 := by rw [← hW6]; exact bl1 _ _
      have hbx : BoxC W6 w1.heap.size #[.slice f.ad f.bs.length f.cap, .int .i64 f.last] 118 := by rw [← hW6]; exact BoxC.new _ _ _
      have hs6 : w1.heap.size < W6.heap.size := by rw [← hW6]; simp
      have HR6 := Lib.hid (show W6.ranges Try.prog 9 RF bm W3.heap.size L.length (dOf L) (fun z => left z && !z.sameKey f.key) cnt1 by rw [← hW6]; exact hrg1.alloc _)
      have hd6 := hd1.below hb6
      have HB6 := Lib.hid (step_below hb1 hb6)
      have F7 := Lib.hid (fun X (o : Off (fun k => k = w.heap.size) W6 X) => (⟨(o.box hd6.box (fun e => by have e : w.heap.size + 1 = w.heap.size := e; omega)).cell 1, (o.box hbx (fun e => by have e : w1.heap.size = w.heap.size := e; omega)).cell 0, (o.box hbx (fun e => by have e : w1.heap.size = w.heap.size := e; omega)).cell 1⟩ : X.cell? ⟨w.heap.size + 1, 1, none⟩ = some (.map (some w.heap.size)) ∧ X.cell? ⟨w1.heap.size, 0, none⟩ = some (.slice f.ad f.bs.length f.cap) ∧ X.cell? ⟨w1.heap.size, 1, none⟩ = some (.int .i64 f.last)))
      have HRW := Lib.hid (fun X (b : Below W6.heap.size W6 X) => (HH.out.below (step_below HB6.out b)).rows f hfm)
      have HST := Lib.hid (fun w7 va vc (b : Below W6.heap.size W6 w7) (ho : w7.ownsRow W6.heap.size 5 1 (.slice va f.bs.length vc) f.bs.length (iv .u8 f.bs)) => (by
        obtain ⟨w8, x1, x2, x3, x4⟩ := copy_step (hd6.below b) HH.out.ok HAP.out HC.out hfm hlx ho (fun k hk => hd6.lt hk)
        exact ⟨w8, x1, x2, x3, x4⟩ : ∃ w8, (Instr.mapUpdate 92 (.map (some w.heap.size)) (.string f.nm) (.agg #[.slice va f.bs.length vc, .int .i64 f.last])).run Try.prog w7 = .ok () w8 ∧ (Off (fun k => k = w.heap.size) w7 w8 ∧ Dk w8 (w.heap.size + 1) w.heap.size room (putL (cpF f va vc) Lc) ∧ (∀ k, Own (w.heap.size + 1) w.heap.size (putL (cpF f va vc) Lc) k → Own (w.heap.size + 1) w.heap.size Lc k ∨ W6.heap.size ≤ k))))
      have HC2 := Lib.hid (fun va vc => HC.out.step HAP.out hfm hlx va vc)
      clear hrg hrg1 hg1 hd1 hb1 hfv hb6 hbx hd6 hfm hlx
      go_wp2

      clear hW6 hen
      refine wp_region_held_drew (S := (fun X => Off (fun k => k = w.heap.size) W6 X)) (by kernel_rfl) (Off.of ((Below.refl _ _).drew)) (fun hHeld => ?_)
      refine wpAnyH_take (i := 0) (oi := { dst := some 30, op := Op.move (Operand.tmp 3), type := 23, pos := "disk.go:208", after := #[], guard := none }) (v := ?_) rfl (by kernel_rfl) (by kernel_rfl) (by kernel_rfl) (fun _ _ _ h => h) (Or.inl ⟨by rfl, ?_⟩) (by assumption) ?_
      rotate_left
      · intro W hSw; go_simp; try with_reducible rfl
      try simp only [Act.put, List.setIfInBounds_toArray, List.set_cons_zero, List.set_cons_succ]
      refine wpAnyH_take (i := 1) (oi := { dst := some 31, op := Op.nilCheck (Operand.tmp 30), type := 0, pos := "disk.go:208", after := #[{ on := 0, ground := Ground.data }], guard := none }) (v := ?_) rfl (by kernel_rfl) (by kernel_rfl) (by kernel_rfl) (fun _ _ _ h => h) (Or.inl ⟨by rfl, ?_⟩) (by assumption) ?_
      rotate_left
      · intro W hSw; go_simp; try with_reducible rfl
      try simp only [Act.put, List.setIfInBounds_toArray, List.set_cons_zero, List.set_cons_succ]
      refine wpAnyH_take (i := 2) (oi := { dst := some 32, op := Op.fieldAddr 94 (Operand.tmp 31) 1, type := 0, pos := "disk.go:208", after := #[{ on := 1, ground := Ground.data }], guard := none }) (v := ?_) rfl (by kernel_rfl) (by kernel_rfl) (by kernel_rfl) (fun _ _ _ h => h) (Or.inl ⟨by rfl, ?_⟩) (by assumption) ?_
      rotate_left
      · intro W hSw; go_simp; try with_reducible rfl
      try simp only [Act.put, List.setIfInBounds_toArray, List.set_cons_zero, List.set_cons_succ]
      refine wpAnyH_take (i := 3) (oi := { dst := some 33, op := Op.load 92 (Operand.tmp 32), type := 92, pos := "disk.go:208", after := #[{ on := 2, ground := Ground.data }], guard := none }) (v := ?_) rfl (by kernel_rfl) (by kernel_rfl) (by kernel_rfl) (fun _ _ _ h => h) (Or.inl ⟨by rfl, ?_⟩) (by assumption) ?_
      rotate_left
      · intro W hSw; obtain ⟨a0, a1, a2⟩ := F7.out W hSw; go_simp; try with_reducible rfl
      try simp only [Act.put, List.setIfInBounds_toArray, List.set_cons_zero, List.set_cons_succ]
      refine wpAnyH_take (i := 4) (oi := { dst := some 34, op := Op.move (Operand.tmp 4), type := 9, pos := "disk.go:208", after := #[], guard := none }) (v := ?_) rfl (by kernel_rfl) (by kernel_rfl) (by kernel_rfl) (fun _ _ _ h => h) (Or.inl ⟨by rfl, ?_⟩) (by assumption) ?_
      rotate_left
      · intro W hSw; go_simp; try with_reducible rfl
      try simp only [Act.put, List.setIfInBounds_toArray, List.set_cons_zero, List.set_cons_succ]
      refine wpAnyH_take (i := 5) (oi := { dst := some 35, op := Op.load 118 (Operand.tmp 5), type := 118, pos := "disk.go:208", after := #[], guard := none }) (v := ?_) rfl (by kernel_rfl) (by kernel_rfl) (by kernel_rfl) (fun _ _ _ h => h) (Or.inl ⟨by rfl, ?_⟩) (by assumption) ?_
      rotate_left
      · intro W hSw; obtain ⟨a0, a1, a2⟩ := F7.out W hSw; go_simp; try with_reducible rfl
      try simp only [Act.put, List.setIfInBounds_toArray, List.set_cons_zero, List.set_cons_succ]
      refine wpAnyH_ready (rs := [6]) (by kernel_rfl) (by simp) ?_
      refine AllReadyH.cons (o := { dst := some 36, op := Op.call { callee := Callee.value (Operand.func 101), args := #[Operand.tmp 35], argTypes := #[118] }, type := 118, pos := "disk.go:208", after := #[{ on := 5, ground := Ground.data }], guard := none }) rfl (fun K hK => ?_) AllReadyH.nil
      go_simp
      refine (dfcopy_law f (HRW.out _ ((Below.refl _ _).drew)) hlen).mono ?_; rintro e w7 ⟨va, vc, rfl, hO, hB7⟩; obtain ⟨w8, hrun, hX⟩ := HST.out w7 va vc (step_below ((Below.refl _ _).drew) hB7) hO; have HX := Lib.hid hX; have HO7 := Lib.hid (Off.of (S := fun k => k = w.heap.size) (step_below ((Below.refl _ _).drew) hB7)); clear hO hX hB7
      go_wp2_with fail
      refine hK.out _ _ (HO7.out) (fun hHeldn => ?_)
      clear hK K hHeld; have hHeld := hHeldn; clear hHeldn
      try simp only [Act.put, List.setIfInBounds_toArray, List.set_cons_zero, List.set_cons_succ]
      refine wpAnyH_ready (rs := [7]) (by kernel_rfl) (by simp) ?_
      refine AllReadyH.cons (o := { dst := none, op := Op.mapUpdate 92 (Operand.tmp 33) (Operand.tmp 34) (Operand.tmp 36), type := 0, pos := "disk.go:208", after := #[{ on := 3, ground := Ground.data }, { on := 4, ground := Ground.data }, { on := 6, ground := Ground.data }, { on := 6, ground := Ground.chain }, { on := 0, ground := Ground.phase }, { on := 1, ground := Ground.phase }, { on := 2, ground := Ground.phase }, { on := 3, ground := Ground.phase }, { on := 4, ground := Ground.phase }, { on := 5, ground := Ground.phase }, { on := 6, ground := Ground.phase }], guard := none }) rfl (fun K hK => ?_) AllReadyH.nil
      go_simp
      refine hK.out _ _ (HO7.out.trans HX.out.1) (fun hHeldn => ?_)
      clear hK K hHeld; have hHeld := hHeldn; clear hHeldn
      try simp only [Act.put, List.setIfInBounds_toArray, List.set_cons_zero, List.set_cons_succ]
      refine wpAnyH_done (by kernel_rfl) ?_ _
      skip
      have HH8 := Lib.hid hHeld
      clear hrun hHeld
      go_wp2
      go_roundw
      case rel =>
        refine ⟨_, cnt1, putL (cpF f va vc) Lc, HR6.out.kept HH8.out.grown (fun e => ?_) (fun e => ?_), HX.out.2.1, HC2.out va vc, Off.below HB6.out HH8.out (by omega) (fun k hk => by rw [hk]; exact Nat.le_refl _), fun k hk => ?_, by have := HH8.out.size; omega⟩
        · have := HH.out.map.lt
          simp at e; omega
        · simp at e; omega
        · rcases HX.out.2.2 k hk with h | h
          · exact HOW.out k h
          · exact ⟨by omega, by omega⟩
      case measure =>
        rw [(HR6.out.kept HH8.out.grown (fun e => by have := HH.out.map.lt; simp at e; omega) (fun e => by simp at e; omega)).left_eq, hrgH.out.left_eq]
        exact hlt
end Go.Proofs.Ytbjhcbiihekceaa
