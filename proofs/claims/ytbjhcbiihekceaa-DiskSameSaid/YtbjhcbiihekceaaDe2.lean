/- Disks: All. -/
import Derived.Test.YtbjhcbiihekceaaDe1
import Derived.Sort.QuietIn
namespace Go.Proofs.Ytbjhcbiihekceaa
open Go.ChangeShapes Go.WideShapes Go.ChangeAt Go.RowKit Go.Maps
set_option linter.unusedVariables false
set_option linter.unusedSimpArgs false
/-- What lies from base on, and is a row or a map, lies as it lay. -/
structure KpA (base : Nat) (A B : World) : Prop where
  os : B.os = A.os
  tape : B.tape = A.tape
  output : B.output = A.output
  size : A.heap.size ≤ B.heap.size
  same : ∀ (k : Nat) (o : Obj), base ≤ k → A.heap[k]? = some o → (o.isCells = true ∨ o.isWalk = true) → B.heap[k]? = some o
theorem KpA.refl (base : Nat) (A : World) : KpA base A A := ⟨rfl, rfl, rfl, Nat.le_refl _, fun _ _ _ h _ => h⟩
theorem KpA.trans {base : Nat} {A B C : World} (h : KpA base A B) (k : KpA base B C) : KpA base A C :=
  ⟨k.os.trans h.os, k.tape.trans h.tape, k.output.trans h.output, Nat.le_trans h.size k.size, fun i o hb hi ho => k.same i o hb (h.same i o hb hi ho) ho⟩
theorem KpA.below {base : Nat} {A B : World} (h : Below A.heap.size A B) : KpA base A B :=
  ⟨h.os, h.tape, h.output, h.size, fun k o _ hk _ => (h.block k (Array.getElem?_eq_some_iff.1 hk).1).trans hk⟩
theorem KpA.put {base : Nat} (W : World) (l : Nat) (o o' : Obj) (_ : base ≤ l) (h : W.heap[l]? = some o) (hc : o.isCells = false) (hw : o.isWalk = false) : KpA base W (W.putObj l o') :=
  ⟨rfl, rfl, rfl, by simp, fun k x _ hk hx => by
    refine (World.putObj_heap_other fun e => ?_).trans hk
    subst e
    rw [h] at hk
    cases hk
    rcases hx with hx | hx
    · rw [hc] at hx; cases hx
    · rw [hw] at hx; cases hx⟩
theorem KpA.set {base : Nat} (W : World) (p : Addr) (v : Value) (hp : p.block < base) : KpA base W (W.setCell p v) :=
  ⟨rfl, rfl, rfl, by simp, fun k o hb hk _ => (Below.heap_setCell W p v k (by omega)).trans hk⟩
/-- What is kept so, in the words of Off: blocks of S are rows and maps from base on. -/
theorem KpA.off {base : Nat} {A B : World} (h : KpA base A B) : Off (fun k => ¬ (base ≤ k ∧ ∃ o : Obj, A.heap[k]? = some o ∧ (o.isCells = true ∨ o.isWalk = true))) A B :=
  ⟨h.os, h.tape, h.output, h.size, fun k hk hn => by
    have hn : base ≤ k ∧ ∃ o : Obj, A.heap[k]? = some o ∧ (o.isCells = true ∨ o.isWalk = true) := Classical.byContradiction hn
    obtain ⟨hb, o, ho, hx⟩ := hn
    rw [h.same k o hb ho hx, ho]⟩
theorem Dk.kind {W : World} {p bm room : Nat} {L : List Fil} (h : Dk W p bm room L) {k : Nat} (hk : Own p bm L k) : ∃ o : Obj, W.heap[k]? = some o ∧ (o.isCells = true ∨ o.isWalk = true) := by
  rcases hk with rfl | rfl | ⟨f, hf, hk⟩
  · exact ⟨_, h.box, Or.inl rfl⟩
  · obtain ⟨es, c, hb, _⟩ := h.map
    exact ⟨_, hb, Or.inr rfl⟩
  · rcases h.rows f hf with ⟨h0, _⟩ | ⟨hc, g, cur, ha, hg, r⟩
    · unfold Fil.blk at hk; rw [if_pos h0] at hk; cases hk
    · have hb : f.blk = some g := by unfold Fil.blk; rw [if_neg (by omega), ha]; rfl
      rw [hb] at hk; cases hk
      exact ⟨_, hg, Or.inl rfl⟩
theorem Dk.kp {base : Nat} {A B : World} {p bm room : Nat} {L : List Fil} (h : Dk A p bm room L) (ho : ∀ k, Own p bm L k → base ≤ k) (k : KpA base A B) : Dk B p bm room L :=
  h.off k.off fun x hx hn => hn ⟨ho x hx, h.kind hx⟩
theorem RowAt.kind {W : World} {f : Fil} (h : RowAt W f) {k : Nat} (hk : f.blk = some k) : ∃ o : Obj, W.heap[k]? = some o ∧ (o.isCells = true ∨ o.isWalk = true) := by
  rcases h with ⟨h0, _⟩ | ⟨hc, g, cur, ha, hg, r⟩
  · unfold Fil.blk at hk; rw [if_pos h0] at hk; cases hk
  · have hb : f.blk = some g := by unfold Fil.blk; rw [if_neg (by omega), ha]; rfl
    rw [hb] at hk; cases hk
    exact ⟨_, hg, Or.inl rfl⟩
theorem RowAt.kp {base : Nat} {A B : World} {f : Fil} (h : RowAt A f) (ho : ∀ k, f.blk = some k → base ≤ k) (k : KpA base A B) : RowAt B f :=
  h.off k.off fun x hx hn => hn ⟨ho x hx, h.kind hx⟩
/-- Strings in a row that lies from base on. -/
def StrsB (base : Nat) (W : World) (a : Option Addr) (ss : List ByteArray) : Prop := ∀ k s, ss[k]? = some s → ∃ b, a = some ⟨b, 0, none⟩ ∧ base ≤ b ∧ W.cell? ⟨b, k, none⟩ = some (.string s)
theorem cell_kind {W : World} {b k : Nat} {v : Value} (h : W.cell? ⟨b, k, none⟩ = some v) : ∃ o : Obj, W.heap[b]? = some o ∧ o.isCells = true := cells_of_cell h
theorem KpA.cell {base : Nat} {A B : World} (h : KpA base A B) {b k : Nat} {v : Value} (hb : base ≤ b) (hc : A.cell? ⟨b, k, none⟩ = some v) : B.cell? ⟨b, k, none⟩ = some v := by
  obtain ⟨o, ho, hx⟩ := cell_kind hc
  have : B.heap[b]? = A.heap[b]? := by rw [h.same b o hb ho (Or.inl hx), ho]
  exact (World.cell?_of_block (w := A) this).trans hc
theorem StrsB.kp {base : Nat} {A B : World} {a : Option Addr} {ss : List ByteArray} (h : StrsB base A a ss) (k : KpA base A B) : StrsB base B a ss := fun i s hi => by
  obtain ⟨b, e, hb, hc⟩ := h i s hi
  exact ⟨b, e, hb, k.cell hb hc⟩
theorem strs_rowB {w : World} {base n : Nat} {v : Value} {ns : List ByteArray} (h : w.ownsRow base 9 1 v n (ns.map fun s => .string s)) : ∃ a cap, v = .slice a n cap ∧ StrsB base w a ns := by
  have hlen : ns.length = n := by have := h.1; simpa using this
  rcases h.2 with ⟨hv, h0⟩ | ⟨g, cap, cur, hv, hg, hc, h1, h2, h3, h4⟩
  · have h0 : ns = [] := List.length_eq_zero_iff.1 (by omega)
    subst h0
    exact ⟨none, 0, by rw [hv]; congr, fun k s hk => by simp at hk⟩
  · refine ⟨_, cap, hv, fun k s hk => ⟨g, rfl, hg, ?_⟩⟩
    have hx : (ns.map fun s => Value.string s)[k]? = some (.string s) := by rw [List.getElem?_map, hk]; rfl
    rw [← h4, List.getElem?_take] at hx
    split at hx
    · simp only [World.cell?, hc]
      simpa using hx
    · cases hx
theorem look_self {L : List Fil} (hp : L.Pairwise fun f g => f.key ≠ g.key) {f : Fil} (hf : f ∈ L) : look L f.nm = some f := by
  unfold look
  induction L with
  | nil => cases hf
  | cons g r ih =>
    obtain ⟨h1, h2⟩ := List.pairwise_cons.1 hp
    rcases List.mem_cons.1 hf with rfl | hf
    · simp
    · have hne : ¬ g.nm = f.nm := fun e => h1 f hf (by unfold Fil.key; rw [e])
      rw [List.find?_cons_of_neg (by simp [hne])]
      exact ih h2 hf
theorem look_at {W : World} {p bm room : Nat} {L : List Fil} (h : Dk W p bm room L) {f : Fil} (hf : f ∈ L) : (Instr.lookup 92 (.map (some bm)) (.string f.nm) false).run Try.prog W = .ok (.agg #[.slice f.ad f.bs.length f.cap, .int .i64 f.last]) W := by
  have hs := may_size (h.ok.nms f hf)
  obtain ⟨v, ps, hr, hv⟩ := h.map.lookup law9 Try.underlying92 (zero118 W) (RF_fv _ _ _ _) (key_of f.nm hs)
  rw [at_dOf, look_self h.apart hf] at hv
  obtain ⟨_, e⟩ := RF_inv hv
  have : f.v = v := by have := (Prod.mk.inj e).1; simpa using this
  subst this
  exact hr
def encA (f : Fil) : Array Value := #[.string f.nm, .slice f.ad f.bs.length f.cap]
/-- What is known of the k-th file that All hands over. -/
structure PxA (base : Nat) (C : List CF) (k : Nat) (f : Fil) (W : World) : Prop where
  at_ : C[k]? = some (core f)
  row : RowAt W f
  blk : ∀ b, f.blk = some b → base ≤ b
  len : f.bs.length ≤ 1048576
theorem PxA.kp {base : Nat} {C : List CF} {k : Nat} {f : Fil} {A B : World} (h : PxA base C k f A) (q : KpA base A B) : PxA base C k f B := ⟨h.at_, h.row.kp h.blk q, h.blk, h.len⟩
/-- All (59). -/
theorem c_all (v : Option Addr) (w : World) : Calls Try.prog 59 #[.pointer v] w fun e w' => e = .returned (.func (.func 102) #[] #[.pointer (some ⟨w.heap.size, 0, none⟩)]) ∧ w' = w.alloc (.cells #[.pointer v] 23) := by
  have hmf : ∀ (fn : Fn) (first cap : Array Value) (w : World), (Instr.makeFunc fn first cap).run Try.prog w = .ok (.func fn first cap) w := fun _ _ _ _ => rfl
  go_enter Try.func59, Try.ntmps59
  go_wp2
  go_ret
  exact ⟨rfl, rfl⟩
theorem field0 (a : Option Addr) (n c : Nat) (l : Int) (W : World) : (Instr.field 118 (.agg #[.slice a n c, .int .i64 l]) 0).run Try.prog W = .ok (.slice a n c) W := by
  first | kernel_rfl | simp [Instr.field, go_sem]
set_option maxRecDepth 100000 in
set_option maxHeartbeats 4000000 in
theorem all_x (m : Nat) (hm : 1 ≤ m) {w : World} {p bm room : Nat} {C : List CF} {O : Nat → Prop} (hd : DC w p bm room C O) (Bs : Nat) (hBs : BoxC w Bs #[.pointer (some ⟨p, 0, none⟩)] 23) :
    SeqX Fence.wide m Try.prog 102 #[.pointer (some ⟨Bs, 0, none⟩)] encA (KpA w.heap.size) (PxA w.heap.size C) C.length w := fun lp J Jx W hW hJ hJx hY h0 => by
  obtain ⟨L, hdk, rfl, _⟩ := hd
  have HD := Lib.hid (hdk.below hW)
  have hcc := (hBs.below hW).cell 0
  have HB := Lib.hid hW.size
  have hbl := Lib.hid (hBs.below hW)
  clear hBs hW hdk
  show CallsIn Fence.wide m Try.prog 102 #[.func (.yield lp) #[] #[], .pointer (some ⟨Bs, 0, none⟩)] W _
  refine callsIn_of_wp Try.func102 rfl trivial ?_ rfl
  simp only [Try.ntmps102, List.size_toArray, List.length_cons, List.length_nil, Nat.reduceAdd, Nat.reduceSub, Array.replicate_succ, Array.replicate_zero, List.push_toArray, List.append_toArray, List.nil_append, List.cons_append]
  simp only [List.getElem?_toArray, List.getElem?_cons_zero] at hcc
  gi_wp2_with fail
  refine ⟨trivial, ?_⟩
  refine (callsIn_wide.2 (dnone_law HD.out)).mono ?_
  rintro e w' ⟨rfl, rfl⟩
  gi_wp2_with fail
  refine ⟨trivial, ?_⟩
  refine (callsIn_wide.2 (dcopy_same HD.out)).mono ?_
  rintro e W1 ⟨Lc, rfl, hd1, hcore, how, hb1⟩
  have J1 : J 0 W1 := hJ _ _ _ _ h0 (grown_of_below hb1) (fun r e => by cases e)
  have HD1 := Lib.hid hd1
  have HCO := Lib.hid hcore
  have HOW := Lib.hid (fun k (hk : Own (W.heap.size + 1) W.heap.size Lc k) => Nat.le_trans HB.out (how k hk))
  have HS1 := Lib.hid (Nat.le_trans HB.out hb1.size)
  have hc1 : W1.cell? ⟨W.heap.size + 1, 1, none⟩ = some (.map (some W.heap.size)) := hd1.c1
  clear hd1 hcore how h0 hcc hb1
  gi_wp2_with fail
  refine ⟨trivial, ?_⟩
  refine (callsIn_wide.2 (dnames_law HD1.out)).mono ?_
  rintro e W2 ⟨v, rfl, hrow, hb2⟩
  obtain ⟨na, nc, rfl, hst⟩ := strs_rowB (ns := Lc.map (·.nm)) (by rw [List.map_map]; exact hrow)
  have J2 : J 0 W2 := hJ _ _ _ _ J1 (grown_of_below hb2) (fun r e => by cases e)
  have HJ2 := Lib.hid J2
  have HD2 := Lib.hid (HD1.out.below hb2)
  have HST := Lib.hid (show StrsB w.heap.size W2 na (Lc.map (·.nm)) from fun k s hk => by
    obtain ⟨b, e, hb, hc⟩ := hst k s hk
    exact ⟨b, e, Nat.le_trans HS1.out hb, hc⟩)
  obtain ⟨n, hn⟩ : ∃ n, Lc.length = n := ⟨_, rfl⟩
  have HN := Lib.hid hn
  have HNC := Lib.hid (show (L.map core).length = n by rw [← HCO.out, List.length_map]; exact hn)
  have hn64 : n ≤ 64 := by rw [← hn]; exact HD1.out.ok.few
  rw [hn]
  clear J1 J2 hrow hb2 hst hc1 hn
  gi_wp2_with fail
  gi_loopw [13] (fun i wr => ∃ k : Nat, k ≤ n ∧ i = .int .i64 (k : Int) ∧ Hid (J k wr) ∧ Hid (KpA w.heap.size W2 wr)) (fun i _ => n - (intOf i).toNat)
  case atStart => exact ⟨0, by omega, rfl, HJ2, Lib.hid (KpA.refl _ _)⟩
  case round =>
    clear HJ2
    obtain ⟨k, hk, rfl, hJs, hKp⟩ := hrel
    by_cases hlt : k < n
    · have hkl : (k : Int) < (n : Int) := by omega
      obtain ⟨f, hf⟩ : ∃ f, Lc[k]? = some f := ⟨_, List.getElem?_eq_getElem (by rw [HN.out]; exact hlt)⟩
      have hfm := List.mem_of_getElem? hf
      obtain ⟨nb, rfl, hnb, hnc⟩ := (HST.out.kp hKp.out) k f.nm (by rw [List.getElem?_map, hf]; rfl)
      have hdk := HD2.out.kp HOW.out hKp.out
      have hc1 : wr.cell? ⟨W.heap.size + 1, 1, none⟩ = some (.map (some W.heap.size)) := hdk.c1
      have hlk := look_at hdk hfm
      have hfl := field0 f.ad f.bs.length f.cap f.last wr
      have hpx : PxA w.heap.size (L.map core) k f wr := ⟨by rw [← HCO.out, List.getElem?_map, hf]; rfl, hdk.rows f hfm, fun b hb => HOW.out b (Or.inr (Or.inr ⟨f, hfm, hb⟩)), Nat.le_trans (le_sum hfm) (Nat.le_trans hdk.ok.used hdk.hi)⟩
      obtain ⟨fn, tmps, assign, body, hy, hR⟩ := hY k f wr (by rw [HNC.out]; exact hlt) hJs.out hpx
      dsimp only [encA] at hy
      have HF := Lib.hid hf
      clear hf hfm hdk hpx
      gi_wp2
      refine hR.mono ?_
      rintro e W3 (⟨rfl, hJ3, hk3⟩ | ⟨rfl, hJx3⟩)
      · have HJ3 := Lib.hid hJ3
        have HK3 := Lib.hid (hKp.out.trans hk3)
        clear hJ3 hk3
        gi_wp2
        go_roundw
        case rel => exact ⟨k + 1, by omega, by go_num, HJ3, HK3⟩
        case measure => simp [intOf]; omega
      · have HX3 := Lib.hid hJx3
        clear hJx3
        gi_wp2
        refine bodyPost_ret (results_none rfl _ _ _) rfl ?_
        exact ⟨⟨_, rfl⟩, .inr ⟨k, by rw [HNC.out]; exact hlt, HX3.out⟩⟩
    · have hkl : ¬ (k : Int) < (n : Int) := by omega
      have HE := Lib.hid (show J L.length wr by
        have e := HNC.out
        rw [List.length_map] at e
        rw [e, show n = k by omega]; exact hJs.out)
      clear hJs
      gi_wp2
      go_end0
      exact ⟨⟨_, rfl⟩, .inl HE.out⟩
end Go.Proofs.Ytbjhcbiihekceaa
