/- Disks: what is taken out, what is put in; Remove. -/
import Derived.Test.YtbjhcbiihekceaaDkq
namespace Go.Proofs.Ytbjhcbiihekceaa
open Go.ChangeShapes Go.WideShapes Go.ChangeAt Go.RowKit Go.Maps
set_option linter.unusedVariables false
set_option linter.unusedSimpArgs false
theorem RowAt.nmap {W : World} {f : Fil} (h : RowAt W f) {b : Nat} {es : Array MapEntry} {c : Nat} (hb : W.heap[b]? = some (.map es c)) {k : Nat} (hk : f.blk = some k) : k ≠ b := by
  rcases h with ⟨h, _⟩ | ⟨hc, g, cur, ha, hg, r⟩
  · unfold Fil.blk at hk; rw [if_pos h] at hk; cases hk
  · have e : f.blk = some g := by unfold Fil.blk; rw [if_neg (by omega), ha]; rfl
    rw [e] at hk; cases hk
    intro e; subst e
    rw [hb] at hg; cases hg
theorem Dk.turn {W w2 : World} {p bm room n : Nat} {L L' : List Fil} (h : Dk W p bm room L) (hm : w2.ownsMap Try.prog 9 RF bm n (dOf L')) (o : Off (fun k => k = bm) W w2) (hf : Fls room L') (hr : ∀ f ∈ L', RowAt W f) : Dk w2 p bm room L' := by
  obtain ⟨es, c, hb, _⟩ := h.map
  refine ⟨o.box h.box fun e => ?_, ?_, fun f hf => (hr f hf).off o fun k hk => (hr f hf).nmap hb hk, hf, h.lo, h.hi⟩
  · have hp := h.box
    unfold BoxC at hp
    rw [e, hb] at hp; cases hp
  · have := ownsMap_exact hm
    rwa [size_dOf] at this
theorem perm_insL (f : Fil) : ∀ L : List Fil, (insL f L).Perm (f :: L)
  | [] => List.Perm.refl _
  | g :: r => by
    unfold insL
    split
    · exact List.Perm.refl _
    · exact ((perm_insL f r).cons g).trans (List.Perm.swap f g r)
theorem sum_del (s : ByteArray) : ∀ L : List Fil, ((delL s L).map fun f => f.bs.length).sum ≤ (L.map fun f => f.bs.length).sum
  | [] => Nat.le_refl _
  | g :: r => by
    have := sum_del s r
    unfold delL at this ⊢
    rw [List.filter_cons]
    split
    · rw [List.map_cons, List.sum_cons, List.map_cons, List.sum_cons]; omega
    · rw [List.map_cons, List.sum_cons]; omega
theorem Fls.del {room : Nat} {L : List Fil} (h : Fls room L) (s : ByteArray) : Fls room (delL s L) :=
  ⟨h.apart.sublist List.filter_sublist, fun f hf => h.nms f (mem_delL.1 hf).1, fun f hf => h.byt f (mem_delL.1 hf).1, fun f hf => h.lasts f (mem_delL.1 hf).1, Nat.le_trans (sum_del s L) h.used, Nat.le_trans (List.length_filter_le _ _) h.few⟩
theorem apart_symm {f g : Fil} (h : f.blk = none ∨ f.blk ≠ g.blk) : g.blk = none ∨ g.blk ≠ f.blk := by
  rcases h with h | h
  · cases e : g.blk
    · exact Or.inl rfl
    · exact Or.inr (by rw [h]; simp)
  · exact Or.inr h.symm
theorem Fls.put {room : Nat} {L : List Fil} (h : Fls room L) (f : Fil) (ha : ∀ g ∈ delL f.nm L, f.blk = none ∨ f.blk ≠ g.blk) (hn : mayB f.nm = true) (hb : Byt f.bs) (hl : f.last ≤ f.bs.length) (hu : ((delL f.nm L).map fun f => f.bs.length).sum + f.bs.length ≤ room) (hfew : (delL f.nm L).length + 1 ≤ 64) : Fls room (putL f L) := by
  have hd := h.del f.nm
  have hp := perm_insL f (delL f.nm L)
  have hm : ∀ x, x ∈ putL f L → x = f ∨ x ∈ delL f.nm L := fun x hx => by simpa using hp.mem_iff.1 hx
  refine ⟨(hp.pairwise_iff fun h => apart_symm h).2 (List.pairwise_cons.2 ⟨ha, hd.apart⟩), fun x hx => ?_, fun x hx => ?_, fun x hx => ?_, ?_, ?_⟩
  · rcases hm x hx with rfl | h
    · exact hn
    · exact hd.nms x h
  · rcases hm x hx with rfl | h
    · exact hb
    · exact hd.byt x h
  · rcases hm x hx with rfl | h
    · exact hl
    · exact hd.lasts x h
  · have := (hp.map fun f => f.bs.length).sum_nat
    unfold putL
    rw [this, List.map_cons, List.sum_cons]; omega
  · unfold putL
    rw [hp.length_eq]; simpa using hfew
set_option maxHeartbeats 1000000 in
theorem dremove1_law {W : World} {p bm room : Nat} {L : List Fil} (h : Dk W p bm room L) (v : Value) (b0 b1 : Nat) (s : ByteArray) (h0 : BoxC W b0 #[.pointer (some ⟨p, 0, none⟩)] 23) (h1 : BoxC W b1 #[.string s] 9) (hs : s.size ≤ maxLen) (a : Option Addr) (n c l : Nat) (hv : v = fv a n c l) :
    Calls Try.prog 100 #[.agg #[.slice a n c, .int .i64 l], .pointer (some ⟨b0, 0, none⟩), .pointer (some ⟨b1, 0, none⟩)] W fun e w' => e = .returned (.tuple #[]) ∧ Dk w' p bm room (delL s L) ∧ Off (fun k => k = bm) W w' := by
  clear hv v
  obtain ⟨W1, hW⟩ : ∃ W1, (W.alloc (.cells #[.slice a n c, .int .i64 l] 118)).drew = W1 := ⟨_, rfl⟩
  have hb : Below W.heap.size W W1 := by rw [← hW]; exact (bl1 _ _).drew
  have hd := h.below hb
  obtain ⟨w2, hrun, hm2, ht⟩ := hd.map.drop law9 Try.underlying92 (key_of s hs) 0
  have hoff : Off (fun k => k = bm) W1 w2 := Off.of_map ht.grown rfl
  rw [del_dOf] at hm2
  have HR := Lib.hid (hd.turn hm2 hoff (h.ok.del s) fun f hf => hd.rows f (mem_delL.1 hf).1)
  have HO := Lib.hid ((Off.of (S := fun k => k = bm) hb).trans hoff)
  have nm : ∀ {b cs t}, BoxC W1 b cs t → b ≠ bm := fun {b cs t} hx e => by
    obtain ⟨es, c, hy, _⟩ := hd.map
    unfold BoxC at hx
    rw [e, hy] at hx; cases hx
  have FC := Lib.hid (fun W (o : Off (fun k => k = bm) W1 W) => (⟨(o.box (h0.below hb) (nm (h0.below hb))).cell 0, (o.box (h1.below hb) (nm (h1.below hb))).cell 0, (o.box hd.box (nm hd.box)).cell 1⟩ : W.cell? ⟨b0, 0, none⟩ = some (.pointer (some ⟨p, 0, none⟩)) ∧ W.cell? ⟨b1, 0, none⟩ = some (.string s) ∧ W.cell? ⟨p, 1, none⟩ = some (.map (some bm))))
  clear h h0 h1 hb hd hm2 ht nm
  subst hW
  go_enter Try.func100, Try.ntmps100
  go_wp2
  refine wp_region_held_drew (S := (fun X => Off (fun k => k = bm) (W.alloc (.cells #[.slice a n c, .int .i64 l] 118)).drew X)) (by kernel_rfl) ((Off.refl _ _)) (fun hHeld => ?_)
  refine wpAnyH_take (i := 0) (oi := { dst := some 4, op := Op.load 23 (Operand.tmp 1), type := 23, pos := "disk.go:116", after := #[], guard := none }) (v := ?_) rfl (by kernel_rfl) (by kernel_rfl) (by kernel_rfl) (fun _ _ _ h => h) (Or.inl ⟨by rfl, ?_⟩) (by assumption) ?_
  rotate_left
  · intro W hSw; obtain ⟨a0, a1, a3⟩ := FC.out _ hSw; go_simp; try with_reducible rfl
  try simp only [Act.put, List.setIfInBounds_toArray, List.set_cons_zero, List.set_cons_succ]
  refine wpAnyH_take (i := 1) (oi := { dst := some 5, op := Op.nilCheck (Operand.tmp 4), type := 0, pos := "disk.go:116", after := #[{ on := 0, ground := Ground.data }], guard := none }) (v := ?_) rfl (by kernel_rfl) (by kernel_rfl) (by kernel_rfl) (fun _ _ _ h => h) (Or.inl ⟨by rfl, ?_⟩) (by assumption) ?_
  rotate_left
  · intro W hSw; go_simp; try with_reducible rfl
  try simp only [Act.put, List.setIfInBounds_toArray, List.set_cons_zero, List.set_cons_succ]
  refine wpAnyH_take (i := 2) (oi := { dst := some 6, op := Op.fieldAddr 94 (Operand.tmp 5) 1, type := 0, pos := "disk.go:116", after := #[{ on := 1, ground := Ground.data }], guard := none }) (v := ?_) rfl (by kernel_rfl) (by kernel_rfl) (by kernel_rfl) (fun _ _ _ h => h) (Or.inl ⟨by rfl, ?_⟩) (by assumption) ?_
  rotate_left
  · intro W hSw; go_simp; try with_reducible rfl
  try simp only [Act.put, List.setIfInBounds_toArray, List.set_cons_zero, List.set_cons_succ]
  refine wpAnyH_take (i := 3) (oi := { dst := some 7, op := Op.load 92 (Operand.tmp 6), type := 92, pos := "disk.go:116", after := #[{ on := 2, ground := Ground.data }], guard := none }) (v := ?_) rfl (by kernel_rfl) (by kernel_rfl) (by kernel_rfl) (fun _ _ _ h => h) (Or.inl ⟨by rfl, ?_⟩) (by assumption) ?_
  rotate_left
  · intro W hSw; obtain ⟨a0, a1, a3⟩ := FC.out _ hSw; go_simp; try with_reducible rfl
  try simp only [Act.put, List.setIfInBounds_toArray, List.set_cons_zero, List.set_cons_succ]
  refine wpAnyH_take (i := 4) (oi := { dst := some 8, op := Op.load 9 (Operand.tmp 2), type := 9, pos := "disk.go:116", after := #[], guard := none }) (v := ?_) rfl (by kernel_rfl) (by kernel_rfl) (by kernel_rfl) (fun _ _ _ h => h) (Or.inl ⟨by rfl, ?_⟩) (by assumption) ?_
  rotate_left
  · intro W hSw; obtain ⟨a0, a1, a3⟩ := FC.out _ hSw; go_simp; try with_reducible rfl
  try simp only [Act.put, List.setIfInBounds_toArray, List.set_cons_zero, List.set_cons_succ]
  refine wpAnyH_ready (rs := [5]) (by kernel_rfl) (by simp) ?_
  refine AllReadyH.cons (o := { dst := none, op := Op.call { callee := Callee.builtin Builtin.delete, args := #[Operand.tmp 7, Operand.tmp 8], argTypes := #[92, 9] }, type := 0, pos := "disk.go:116", after := #[{ on := 3, ground := Ground.data }, { on := 4, ground := Ground.data }], guard := none }) rfl (fun K hK => ?_) AllReadyH.nil
  go_simp
  refine hK.out _ _ hoff (fun hHeldn => ?_)
  clear hK K hHeld; have hHeld := hHeldn; clear hHeldn
  try simp only [Act.put, List.setIfInBounds_toArray, List.set_cons_zero, List.set_cons_succ]
  refine wpAnyH_done (by kernel_rfl) ?_ _
  skip
  clear FC hrun hoff hHeld
  go_wp2
  go_end0
  exact ⟨rfl, HR.out, HO.out⟩
theorem boxes2 (w : World) (c0 c1 : Array Value) (t0 t1 : TypeId) :
    BoxC ((w.alloc (.cells c0 t0)).alloc (.cells c1 t1)) w.heap.size c0 t0 ∧ BoxC ((w.alloc (.cells c0 t0)).alloc (.cells c1 t1)) (w.heap.size + 1) c1 t1 ∧ Below w.heap.size w ((w.alloc (.cells c0 t0)).alloc (.cells c1 t1)) := by
  refine ⟨(BoxC.new w c0 t0).alloc _, ?_, step_below (bl1 _ _) (bl1 _ _)⟩
  have := BoxC.new (w.alloc (.cells c0 t0)) c1 t1
  simpa using this
set_option maxHeartbeats 1000000 in
/-- Remove (51). -/
theorem dremove_law {w : World} {p bm room : Nat} {L : List Fil} (h : Dk w p bm room L) (s : ByteArray) (hm : mayB s = true) (f : Fil) (hf : look L s = some f) :
    Calls Try.prog 51 #[.pointer (some ⟨p, 0, none⟩), .string s] w fun e w' => e = .returned (.int .i64 0) ∧ Dk w' p bm room (delL s L) ∧ Off (fun k => k = bm) w w' := by
  obtain ⟨h0, h1, hb⟩ := boxes2 w #[.pointer (some ⟨p, 0, none⟩)] #[.string s] 23 9
  have HC := Lib.hid (dwith_law (h.below hb) s hm f hf 100 (enters_of Try.func100 (by kernel_rfl) rfl) #[.pointer (some ⟨w.heap.size, 0, none⟩), .pointer (some ⟨w.heap.size + 1, 0, none⟩)] (fun w' => Dk w' p bm room (delL s L) ∧ Off (fun k => k = bm) w w')
    fun W b => (dremove1_law ((h.below hb).below b) _ _ _ s (h0.below b) (h1.below b) (may_size hm) _ _ _ _ rfl).mono fun e w' hh => ⟨hh.1, hh.2.1, (Off.of (step_below hb b)).trans hh.2.2⟩)
  clear h h0 h1 hb hf
  go_enter Try.func51, Try.ntmps51
  go_wp2_with fail
  refine HC.out.mono ?_
  rintro e w' ⟨rfl, hR⟩
  have HR := Lib.hid hR
  clear hR
  go_wp2
  go_ret
  exact ⟨rfl, HR.out⟩
set_option maxHeartbeats 1000000 in
theorem dremove_no {w : World} {p bm room : Nat} {L : List Fil} (h : Dk w p bm room L) (s : ByteArray) (hs : s.size ≤ maxLen) (k : Nat) (hk : (mayB s = true ∧ look L s = none ∧ k = 6) ∨ (mayB s = false ∧ k = 2)) :
    Calls Try.prog 51 #[.pointer (some ⟨p, 0, none⟩), .string s] w fun e w' => e = .returned (.int .i64 k) ∧ Below w.heap.size w w' := by
  obtain ⟨h0, h1, hb⟩ := boxes2 w #[.pointer (some ⟨p, 0, none⟩)] #[.string s] 23 9
  have HB := Lib.hid hb
  have HC := Lib.hid (by
    rcases hk with ⟨h1, h2, rfl⟩ | ⟨h1, rfl⟩
    · exact dwith_no (h.below hb) s h1 h2 100 _
    · exact dwith_bad (h.below hb) s hs h1 100 _ : Calls Try.prog 64 #[.pointer (some ⟨p, 0, none⟩), .string s, .func (.func 100) #[] #[.pointer (some ⟨w.heap.size, 0, none⟩), .pointer (some ⟨w.heap.size + 1, 0, none⟩)]] ((w.alloc (.cells #[.pointer (some ⟨p, 0, none⟩)] 23)).alloc (.cells #[.string s] 9)) fun e w' => e = .returned (.int .i64 k) ∧ Below ((w.alloc (.cells #[.pointer (some ⟨p, 0, none⟩)] 23)).alloc (.cells #[.string s] 9)).heap.size ((w.alloc (.cells #[.pointer (some ⟨p, 0, none⟩)] 23)).alloc (.cells #[.string s] 9)) w')
  clear h h0 h1 hb hk
  go_enter Try.func51, Try.ntmps51
  go_wp2_with fail
  refine HC.out.mono ?_
  rintro e w' ⟨rfl, hR⟩
  have HR := Lib.hid (step_below HB.out hR)
  clear hR
  go_wp2
  go_ret
  exact ⟨rfl, HR.out⟩
end Go.Proofs.Ytbjhcbiihekceaa
