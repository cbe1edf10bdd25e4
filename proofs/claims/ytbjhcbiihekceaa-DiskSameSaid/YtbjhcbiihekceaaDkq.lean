/- Disks: Lasting, Read. -/
import Derived.Test.YtbjhcbiihekceaaDkp
import Derived.Lib.SliceRun
namespace Go.Proofs.Ytbjhcbiihekceaa
open Go.ChangeShapes Go.WideShapes Go.ChangeAt Go.RowKit Go.Maps
set_option linter.unusedVariables false
set_option linter.unusedSimpArgs false
theorem RowAt.ls {W : World} {f : Fil} (h : RowAt W f) : Ls .u8 W f.ad f.cap f.bs := by
  rcases h with ⟨h1, h2⟩ | ⟨hc, g, cur, ha, hg, h1, h2, h3, h4⟩
  · exact ⟨by rw [h2]; exact Rd.nil _ _ _, fun _ => ⟨h2, h1⟩, by rw [h2, h1]; exact Nat.le_refl _⟩
  · refine ⟨fun k hk => ⟨g, 0, ha, ?_⟩, fun e => (by rw [ha] at e; cases e), h1⟩
    have e := congrArg (fun l : List Value => l[k]?) h4
    simp only [List.getElem?_take, if_pos hk] at e
    rw [(show BoxC W g cur 5 from hg).cell]
    simpa [iv, List.getD, List.getElem?_eq_getElem hk] using e
set_option maxRecDepth 100000 in
set_option maxHeartbeats 1000000 in
/-- slices.Clone of bytes (66). -/
theorem dclone_law (a : Option Addr) (L : List Int) (n cap : Nat) (hL : L.length = n) (hn : n ≤ 1048576) (w : World) (hA : Ls .u8 w a cap L) :
    Calls Try.prog 66 #[.slice a n cap] w fun r w' => ∃ v, r = .returned v ∧ w'.ownsRow w.heap.size 5 1 v n (iv .u8 L) ∧ Below w.heap.size w w' := by
  have HA := Lib.hid hA
  have HL := Lib.hid hL
  rcases a with _ | a
  · obtain ⟨rfl, rfl⟩ := hA.nl rfl
    simp only [List.length_nil] at hL
    subst hL
    have hsn : ∀ W, (binOp .eql 34 (.slice none 0 0) (.slice none 0 0)).run Try.prog W = .ok (.bool true) W := fun W => Lib.run_eql_slice_nil W 34 5 none 0 0 0 0 Try.underlying34
    clear hA
    go_enter Try.func66, Try.ntmps66
    go_wp2_with fail
    go_ret
    exact ⟨_, rfl, ⟨rfl, Or.inl ⟨rfl, rfl⟩⟩, Below.refl _ _⟩
  · clear hA hL
    have hsn : ∀ W, (binOp .eql 34 (.slice (some a) n cap) (.slice none 0 0)).run Try.prog W = .ok (.bool false) W := fun W => Lib.run_eql_slice_nil W 34 5 (some a) n cap 0 0 Try.underlying34
    go_enter Try.func66, Try.ntmps66
    go_wp2_with (at_builtin; refine append_ls eltB rfl (.tmp 5) (.tmp 6) rfl w.heap.size _ 0 [] rfl (World.ownsRow_lit w #[] 0 (Nat.le_refl _) (by decide) rfl) _ _ n L HL.out rfl (HA.out.below ((Below.refl _ _).alloc (Nat.le_refl _) _)) (by omega) (by simp) ?_)
    intro v2 w2 hown2 hgrow2
    have B2 := ((Below.refl w.heap.size w).alloc (Nat.le_refl _) _).grown hgrow2 (by simp) (fun j hj => by simp [Value.ownBlock] at hj; omega)
    have HO := Lib.hid hown2
    clear hown2 hgrow2
    go_wp2_with fail
    go_ret
    exact ⟨_, rfl, HO.out, B2⟩
theorem le_sum {f : Fil} : ∀ {L : List Fil}, f ∈ L → f.bs.length ≤ (L.map fun f => f.bs.length).sum
  | g :: r, h => by
    rw [List.map_cons, List.sum_cons]
    rcases List.mem_cons.1 h with rfl | h
    · omega
    · have := le_sum h; omega
theorem own_base {w : World} {base base' n size : Nat} {e : TypeId} {v : Value} {xs : List Value} (h : w.ownsRow base e size v n xs) (hb : base' ≤ base) : w.ownsRow base' e size v n xs := by
  refine ⟨h.1, ?_⟩
  rcases h.2 with h | ⟨g, cap, cur, hv, hg, r⟩
  · exact Or.inl h
  · exact Or.inr ⟨g, cap, cur, hv, Nat.le_trans hb hg, r⟩
theorem dlast1_law (W : World) (f : Fil) (b : Nat) (v0 : Value) (hb : BoxC W b #[v0] 3) :
    Calls Try.prog 93 #[.agg #[.slice f.ad f.bs.length f.cap, .int .i64 f.last], .pointer (some ⟨b, 0, none⟩)] W fun e w' => e = .returned (.tuple #[]) ∧ BoxC w' b #[.int .i64 f.last] 3 ∧ Off (fun k => k = b) W w' := by
  have HB := Lib.hid hb
  have HB1 := Lib.hid (hb.alloc (.cells #[.slice f.ad f.bs.length f.cap, .int .i64 f.last] 118))
  have h0 := HB1.out.cell 0
  have h1 := HB1.out.frozen 0
  clear hb
  go_enter Try.func93, Try.ntmps93
  go_wp2
  go_end0
  exact ⟨rfl, by have := HB1.out.put 0 (.int .i64 f.last); simpa using this, (Off.of (S := fun k => k = b) (bl1 _ _)).set ⟨b, 0, none⟩ rfl _⟩
set_option maxHeartbeats 1000000 in
/-- Lasting (46). -/
theorem dlast_law {w : World} {p bm room : Nat} {L : List Fil} (h : Dk w p bm room L) (s : ByteArray) (hm : mayB s = true) (f : Fil) (hf : look L s = some f) :
    Calls Try.prog 46 #[.pointer (some ⟨p, 0, none⟩), .string s] w fun e w' => e = .returned (.tuple #[.int .i64 f.last, .int .i64 0]) ∧ Below w.heap.size w w' := by
  have hN := BoxC.new w #[.int .i64 0] 3
  have HC := Lib.hid (dwith_law (h.below (bl1 w (.cells #[.int .i64 0] 3))) s hm f hf 93 (enters_of Try.func93 (by kernel_rfl) rfl) #[.pointer (some ⟨w.heap.size, 0, none⟩)] (fun w' => BoxC w' w.heap.size #[.int .i64 f.last] 3 ∧ Below w.heap.size w w')
    fun W b => (dlast1_law W f _ _ (hN.below b)).mono fun e w' hh => ⟨hh.1, hh.2.1, hh.2.2.below (step_below (bl1 _ _) b) (by have := b.size; simp at this; omega) fun k hk => by rw [hk]; exact Nat.le_refl _⟩)
  clear h hN hf
  go_enter Try.func46, Try.ntmps46
  go_wp2_with fail
  refine HC.out.mono ?_
  rintro e w' ⟨rfl, hB, hR⟩
  have h0 : w'.cell? ⟨w.heap.size, 0, none⟩ = some (.int .i64 f.last) := hB.cell 0
  clear hB
  go_wp2
  go_ret2
  exact ⟨rfl, hR⟩
set_option maxHeartbeats 1000000 in
theorem dlast_no {w : World} {p bm room : Nat} {L : List Fil} (h : Dk w p bm room L) (s : ByteArray) (hs : s.size ≤ maxLen) (k : Nat) (hk : (mayB s = true ∧ look L s = none ∧ k = 6) ∨ (mayB s = false ∧ k = 2)) :
    Calls Try.prog 46 #[.pointer (some ⟨p, 0, none⟩), .string s] w fun e w' => e = .returned (.tuple #[.int .i64 0, .int .i64 k]) ∧ Below w.heap.size w w' := by
  have hN := BoxC.new w #[.int .i64 0] 3
  have HN := Lib.hid hN
  have HC : Hid (Calls Try.prog 64 #[.pointer (some ⟨p, 0, none⟩), .string s, .func (.func 93) #[] #[.pointer (some ⟨w.heap.size, 0, none⟩)]] (w.alloc (.cells #[.int .i64 0] 3)) fun e w' => e = .returned (.int .i64 k) ∧ Below (w.alloc (.cells #[.int .i64 0] 3)).heap.size (w.alloc (.cells #[.int .i64 0] 3)) w') := Lib.hid (by
    rcases hk with ⟨h1, h2, rfl⟩ | ⟨h1, rfl⟩
    · exact dwith_no (h.below (bl1 _ _)) s h1 h2 93 _
    · exact dwith_bad (h.below (bl1 _ _)) s hs h1 93 _)
  clear h hN hk
  go_enter Try.func46, Try.ntmps46
  go_wp2_with fail
  refine HC.out.mono ?_
  rintro e w' ⟨rfl, hR⟩
  have h0 : w'.cell? ⟨w.heap.size, 0, none⟩ = some (.int .i64 0) := (HN.out.below hR).cell 0
  go_wp2
  go_ret2
  exact ⟨rfl, step_below (bl1 _ _) hR⟩
set_option maxHeartbeats 1000000 in
theorem dread1_law (W : World) (f : Fil) (hr : RowAt W f) (hl : f.bs.length ≤ 1048576) (b : Nat) (v0 : Value) (hb : BoxC W b #[v0] 34) :
    Calls Try.prog 65 #[.agg #[.slice f.ad f.bs.length f.cap, .int .i64 f.last], .pointer (some ⟨b, 0, none⟩)] W fun e w' => e = .returned (.tuple #[]) ∧ ∃ v, BoxC w' b #[v] 34 ∧ w'.ownsRow (W.heap.size + 1) 5 1 v f.bs.length (iv .u8 f.bs) ∧ Off (fun k => k = b) W w' := by
  have HN := Lib.hid (BoxC.new W #[.slice f.ad f.bs.length f.cap, .int .i64 f.last] 118)
  have HB1 := Lib.hid (hb.alloc (.cells #[.slice f.ad f.bs.length f.cap, .int .i64 f.last] 118))
  have HC := Lib.hid (dclone_law f.ad f.bs f.bs.length f.cap rfl hl (W.alloc (.cells #[.slice f.ad f.bs.length f.cap, .int .i64 f.last] 118)) (hr.ls.below (bl1 _ _)))
  have HLT := Lib.hid hb.lt
  clear hb hr
  go_enter Try.func65, Try.ntmps65
  go_wp2_with fail
  refine HC.out.mono ?_
  rintro e w1 ⟨v, rfl, hO, hR⟩
  obtain ⟨va, vc, rfl, _⟩ := own_ls hO rfl
  have hB2 := HB1.out.below hR
  have h0 : w1.cell? ⟨b, 0, none⟩ = some v0 := hB2.cell 0
  have h1 : w1.frozen? ⟨b, 0, none⟩ = false := hB2.frozen 0
  have HB2 := Lib.hid hB2
  have HO := Lib.hid hO
  have HR := Lib.hid hR
  clear hB2 hO hR
  go_wp2
  go_end0
  refine ⟨rfl, .slice va f.bs.length vc, by have := HB2.out.put 0 (.slice va f.bs.length vc); simpa using this, ?_, (Off.of (S := fun k => k = b) (step_below (bl1 _ _) HR.out)).set ⟨b, 0, none⟩ rfl _⟩
  have := HO.out
  simp only [World.size_alloc] at this
  refine this.kept (grownBy_setCell' _ _ _) (Or.inr fun e => ?_)
  rcases this.2 with ⟨hv, _⟩ | ⟨g, cap, cur, hv, hg, _⟩
  · rw [hv] at e; cases e
  · have hlt := HLT.out
    rw [hv] at e
    simp [Value.ownBlock] at e
    omega
set_option maxHeartbeats 1000000 in
/-- Read (26). -/
theorem dread_law {w : World} {p bm room : Nat} {L : List Fil} (h : Dk w p bm room L) (s : ByteArray) (hm : mayB s = true) (f : Fil) (hf : look L s = some f) :
    Calls Try.prog 26 #[.pointer (some ⟨p, 0, none⟩), .string s] w fun e w' => ∃ v, e = .returned (.tuple #[v, .int .i64 0]) ∧ w'.ownsRow w.heap.size 5 1 v f.bs.length (iv .u8 f.bs) ∧ Below w.heap.size w w' := by
  have hN := BoxC.new w #[.slice none 0 0] 34
  have hfm := (look_mem hf).1
  have hlen : f.bs.length ≤ 1048576 := Nat.le_trans (le_sum hfm) (Nat.le_trans h.ok.used h.hi)
  have HC := Lib.hid (dwith_law (h.below (bl1 w (.cells #[.slice none 0 0] 34))) s hm f hf 65 (enters_of Try.func65 (by kernel_rfl) rfl) #[.pointer (some ⟨w.heap.size, 0, none⟩)] (fun w' => ∃ v, BoxC w' w.heap.size #[v] 34 ∧ w'.ownsRow w.heap.size 5 1 v f.bs.length (iv .u8 f.bs) ∧ Below w.heap.size w w')
    fun W b => (dread1_law W f (((h.below (bl1 w _)).below b).rows f hfm) hlen _ _ (hN.below b)).mono fun e w' hh => by
      have hsz : w.heap.size + 1 ≤ W.heap.size := by have := b.size; simpa using this
      obtain ⟨h1, v, h2, h3, h4⟩ := hh
      exact ⟨h1, v, h2, own_base h3 (by omega), h4.below (step_below (bl1 _ _) b) (by omega) fun k hk => by rw [hk]; exact Nat.le_refl _⟩)
  clear h hN hf
  go_enter Try.func26, Try.ntmps26
  go_wp2_with fail
  refine HC.out.mono ?_
  rintro e w' ⟨rfl, v, hB, hO, hR⟩
  have h0 : w'.cell? ⟨w.heap.size, 0, none⟩ = some v := hB.cell 0
  have HO := Lib.hid hO
  clear hB hO
  go_wp2
  go_ret2
  exact ⟨v, rfl, HO.out, hR⟩
set_option maxHeartbeats 1000000 in
theorem dread_no {w : World} {p bm room : Nat} {L : List Fil} (h : Dk w p bm room L) (s : ByteArray) (hs : s.size ≤ maxLen) (k : Nat) (hk : (mayB s = true ∧ look L s = none ∧ k = 6) ∨ (mayB s = false ∧ k = 2)) :
    Calls Try.prog 26 #[.pointer (some ⟨p, 0, none⟩), .string s] w fun e w' => e = .returned (.tuple #[.slice none 0 0, .int .i64 k]) ∧ Below w.heap.size w w' := by
  have hN := BoxC.new w #[.slice none 0 0] 34
  have HN := Lib.hid hN
  have HC : Hid (Calls Try.prog 64 #[.pointer (some ⟨p, 0, none⟩), .string s, .func (.func 65) #[] #[.pointer (some ⟨w.heap.size, 0, none⟩)]] (w.alloc (.cells #[.slice none 0 0] 34)) fun e w' => e = .returned (.int .i64 k) ∧ Below (w.alloc (.cells #[.slice none 0 0] 34)).heap.size (w.alloc (.cells #[.slice none 0 0] 34)) w') := Lib.hid (by
    rcases hk with ⟨h1, h2, rfl⟩ | ⟨h1, rfl⟩
    · exact dwith_no (h.below (bl1 _ _)) s h1 h2 65 _
    · exact dwith_bad (h.below (bl1 _ _)) s hs h1 65 _)
  clear h hN hk
  go_enter Try.func26, Try.ntmps26
  go_wp2_with fail
  refine HC.out.mono ?_
  rintro e w' ⟨rfl, hR⟩
  have h0 : w'.cell? ⟨w.heap.size, 0, none⟩ = some (.slice none 0 0) := (HN.out.below hR).cell 0
  go_wp2
  go_ret2
  exact ⟨rfl, step_below (bl1 _ _) hR⟩
end Go.Proofs.Ytbjhcbiihekceaa
