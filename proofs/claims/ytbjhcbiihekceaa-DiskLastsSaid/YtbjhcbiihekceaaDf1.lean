/- Disks of the document: what one is in memory. -/
import Derived.Test.YtbjhcbiihekceaaDe4
namespace Go.Proofs.Ytbjhcbiihekceaa
open Go.ChangeShapes Go.WideShapes Go.ChangeAt Go.RowKit Go.Maps
set_option linter.unusedVariables false
set_option linter.unusedSimpArgs false
/-- A file's three cells. -/
def fc (f : Fil) : List Value := [.string f.nm, .slice f.ad f.bs.length f.cap, .int .i64 f.last]
def fcs (L : List Fil) : List Value := L.flatMap fc
theorem fcs_nil : fcs [] = [] := rfl
theorem fcs_cons (f : Fil) (L : List Fil) : fcs (f :: L) = fc f ++ fcs L := rfl
theorem fcs_append (L M : List Fil) : fcs (L ++ M) = fcs L ++ fcs M := by simp [fcs]
theorem fcs_length (L : List Fil) : (fcs L).length = L.length * 3 := by
  induction L with
  | nil => rfl
  | cons f r ih => rw [fcs_cons, List.length_append, ih, List.length_cons]; show 3 + _ = _; omega
theorem fcs_at {L : List Fil} : ∀ {i : Nat} {f : Fil}, L[i]? = some f → (fcs L)[i * 3]? = some (.string f.nm) ∧ (fcs L)[i * 3 + 1]? = some (.slice f.ad f.bs.length f.cap) ∧ (fcs L)[i * 3 + 2]? = some (.int .i64 f.last) := by
  induction L with
  | nil => intro i f h; simp at h
  | cons g r ih =>
    intro i f h
    cases i with
    | zero => simp at h; subst h; exact ⟨rfl, rfl, rfl⟩
    | succ i =>
      have h' : r[i]? = some f := by simpa using h
      obtain ⟨h1, h2, h3⟩ := ih h'
      rw [fcs_cons]
      have e : (i + 1) * 3 = (fc g).length + i * 3 := by show _ = 3 + _; omega
      rw [e, Nat.add_assoc, Nat.add_assoc, List.getElem?_append_right (by omega), List.getElem?_append_right (by omega), List.getElem?_append_right (by omega)]
      refine ⟨by rw [show (fc g).length + i * 3 - (fc g).length = i * 3 by omega]; exact h1, by rw [show (fc g).length + (i * 3 + 1) - (fc g).length = i * 3 + 1 by omega]; exact h2, by rw [show (fc g).length + (i * 3 + 2) - (fc g).length = i * 3 + 2 by omega]; exact h3⟩
/-- Cells in a row. -/
def CellsL (W : World) (a : Option Addr) (xs : List Value) : Prop := ∀ j u, xs[j]? = some u → ∃ b off, a = some ⟨b, off, none⟩ ∧ W.cell? ⟨b, off + j, none⟩ = some u
theorem CellsL.below {W W' : World} {a : Option Addr} {xs : List Value} (h : CellsL W a xs) (hb : Below W.heap.size W W') : CellsL W' a xs := fun j u hu => by
  obtain ⟨b, o, e, hc⟩ := h j u hu
  exact ⟨b, o, e, (hb.cell (cell_lt hc)).trans hc⟩
theorem CellsL.nil (W : World) (a : Option Addr) : CellsL W a [] := fun j u h => by simp at h
theorem CellsL.take {W : World} {a : Option Addr} {xs : List Value} (h : CellsL W a xs) (n : Nat) : CellsL W a (xs.take n) := fun j u hu => by
  rw [List.getElem?_take] at hu
  split at hu
  · exact h j u hu
  · cases hu
theorem CellsL.drop {W : World} {b off : Nat} {xs : List Value} (h : CellsL W (some ⟨b, off, none⟩) xs) (n : Nat) : CellsL W (some ⟨b, off + n, none⟩) (xs.drop n) := fun j u hu => by
  rw [List.getElem?_drop] at hu
  obtain ⟨b', o', e, hc⟩ := h (n + j) u hu
  cases e
  exact ⟨b, off + n, rfl, by rw [Nat.add_assoc]; exact hc⟩
theorem own_cells {W : World} {base n sz : Nat} {t : TypeId} {v : Value} {xs : List Value} (h : W.ownsRow base t sz v n xs) : ∃ a cap, v = .slice a n cap ∧ CellsL W a xs ∧ n ≤ cap ∧ (a = none → n = 0 ∧ cap = 0) ∧ (∀ g, a = some g → base ≤ g.block ∧ g.block < W.heap.size ∧ g.off = 0 ∧ g.spot = none) := by
  have hlen := h.1
  rcases h.2 with ⟨hv, h0⟩ | ⟨g, cap, cur, hv, hg, hc, h1, h2, h3, h4⟩
  · subst h0
    have hx : xs = [] := List.length_eq_zero_iff.1 (by omega)
    subst hx
    exact ⟨none, 0, hv, CellsL.nil _ _, Nat.le_refl _, fun _ => ⟨rfl, rfl⟩, fun g e => (by cases e)⟩
  · refine ⟨_, cap, hv, fun j u hj => ⟨g, 0, rfl, ?_⟩, h1, fun e => (by cases e), fun g' e => by cases e; exact ⟨hg, (Array.getElem?_eq_some_iff.1 hc).1, rfl, rfl⟩⟩
    rw [← h4, List.getElem?_take] at hj
    split at hj
    · simp only [World.cell?, hc]
      rw [Nat.zero_add]
      simpa using hj
    · cases hj
theorem inf111 : (Try.prog.info? 111).map (fun i => (i.zero, i.size, i.bytes)) = some (some (.agg #[.string ByteArray.empty, .slice none 0 0, .int .i64 0]), 3, 48) := by kernel_rfl
theorem fc_one (L : List Fil) : ∀ u ∈ fcs L, u.oneCell' = true := fun u hu => by
  unfold fcs at hu
  rw [List.mem_flatMap] at hu
  obtain ⟨f, _, hf⟩ := hu
  simp only [fc, List.mem_cons, List.not_mem_nil, or_false] at hf
  rcases hf with rfl | rfl | rfl <;> rfl
/-- append, of files to files. -/
theorem run_append_fl (w : World) (ty : TypeId) (base : Nat) (v : Value) (n : Nat) (L : List Fil) (hown : w.ownsRow base 111 3 v n (fcs L)) (ad : Option Addr) (c len : Nat) (M : List Fil) (hlen : M.length = len) (hM : CellsL w ad (fcs M)) (hn : ad = none → c = 0) (hb : n + len ≤ 1000) (hbase : base ≤ w.heap.size) :
    ∃ v' w', (Builtin.append_ #[95, 95] ty #[v, .slice ad len c]).run Try.prog w = .ok v' w' ∧ w'.ownsRow base 111 3 v' (n + len) (fcs (L ++ M)) ∧ w.grownBy w' v.ownBlock := by
  subst hlen
  obtain ⟨i0, hi, hz0, hz1, hz2⟩ := info_parts inf111
  rcases ad with _ | ad
  · have hc := hn rfl
    have hM0 : M = [] := by
      cases M with
      | nil => rfl
      | cons f r =>
        obtain ⟨b, o, e, _⟩ := hM 0 (.string f.nm) rfl
        cases e
    subst hM0 hc
    exact ⟨v, w, run_append_owned_none (P := Try.prog) (w := w) base 95 ty 111 i0 3 Try.underlying95 hi v n (fcs L) hown, by simpa using hown, ⟨rfl, rfl, rfl, Nat.le_refl _, fun _ _ _ => rfl⟩⟩
  · obtain ⟨v', w', h1, h2, h3, _⟩ := run_append_own (P := Try.prog) w base 95 ty 111 i0 _ 3 48 Try.underlying95 hi hz0 hz1 hz2 rfl (by decide) v n (fcs L) hown ad M.length c (fcs M) (by rw [fcs_length]) (by
      intro j u hj
      obtain ⟨b, off, e, hc⟩ := hM j u hj
      cases e
      rw [addr_add]
      exact hc) (fc_one M) (by unfold maxLen; omega) (Nat.le_trans (Nat.mul_le_mul_right _ hb) (by decide)) hbase
    rw [← fcs_append] at h2
    exact ⟨v', w', h1, h2, h3⟩
/-- A disk of the document. -/
structure RDk (W : World) (q room : Nat) (L : List Fil) (a : Option Addr) (cap : Nat) : Prop where
  box : BoxC W q #[.int .i64 room, .slice a L.length cap] 97
  own : W.ownsRow (q + 1) 111 3 (.slice a L.length cap) L.length (fcs L)
  rows : ∀ f ∈ L, Ls .u8 W f.ad f.cap f.bs ∧ ∀ b, f.ad = some b → q < b.block ∧ b.block < W.heap.size
/-- Its blocks. -/
def ROwn (q : Nat) (a : Option Addr) (L : List Fil) (k : Nat) : Prop := k = q ∨ (∃ g, a = some g ∧ g.block = k) ∨ ∃ f ∈ L, ∃ b, f.ad = some b ∧ b.block = k
def RDC (W : World) (q room : Nat) (C : List CF) (O : Nat → Prop) : Prop := ∃ L a cap, RDk W q room L a cap ∧ L.map core = C ∧ ∀ k, ROwn q a L k → O k
/-- What a disk's files keep. -/
structure Fine (room : Nat) (C : List CF) : Prop where
  rise : C.Pairwise fun c d => bytesBefore c.1.data.toList d.1.data.toList = true
  few : C.length ≤ 64
  used : cSum C ≤ room
  big : room ≤ 1048576
  low : 1024 ≤ room
  each : ∀ c ∈ C, mayB c.1 = true ∧ Byt c.2.1 ∧ c.2.2 ≤ c.2.1.length
theorem DC.fine {W : World} {p bm room : Nat} {C : List CF} {O : Nat → Prop} (h : DC W p bm room C O) : Fine room C := by
  have hr := h.rise
  have hf := h.few
  obtain ⟨L, h1, rfl, _⟩ := h
  exact ⟨hr, hf, by rw [← sum_core]; exact h1.ok.used, h1.hi, h1.lo, fun c hc => by
    obtain ⟨f, hfm, rfl⟩ := List.mem_map.1 hc
    exact ⟨h1.ok.nms f hfm, h1.ok.byt f hfm, h1.ok.lasts f hfm⟩⟩
theorem Fine.apart {room : Nat} {C : List CF} (h : Fine room C) : C.Pairwise fun c d => c.1 ≠ d.1 := h.rise.imp fun {c d} hb e => by
  rw [e, Go.WideAt.bytes_irrefl] at hb; cases hb
theorem Ls.any {S : Nat → Prop} {K : IntKind} {W W' : World} {a : Option Addr} {cap : Nat} {L : List Int} (h : Ls K W a cap L) (o : Off S W W') (hn : ∀ b, a = some b → ¬ S b.block) : Ls K W' a cap L := by
  refine ⟨fun k hk => ?_, h.nl, h.le⟩
  obtain ⟨b, off, e, hc⟩ := h.rd k hk
  exact ⟨b, off, e, (World.cell?_of_block (w := W) (o.block b (cell_lt hc) (hn _ e))).trans hc⟩
theorem own_off {S : Nat → Prop} {W W' : World} {base n sz : Nat} {t : TypeId} {v : Value} {xs : List Value} (h : W.ownsRow base t sz v n xs) (o : Off S W W') (hn : ∀ g k c, v = .slice (some g) k c → ¬ S g.block) : W'.ownsRow base t sz v n xs := by
  refine ⟨h.1, ?_⟩
  rcases h.2 with h2 | ⟨g, cap, cur, hv, hg, hc, r⟩
  · exact Or.inl h2
  · exact Or.inr ⟨g, cap, cur, hv, hg, (o.block g (Array.getElem?_eq_some_iff.1 hc).1 (hn _ _ _ hv)).trans hc, r⟩
theorem RDk.off {S : Nat → Prop} {W W' : World} {q room : Nat} {L : List Fil} {a : Option Addr} {cap : Nat} (h : RDk W q room L a cap) (o : Off S W W') (hn : ∀ k, ROwn q a L k → ¬ S k) : RDk W' q room L a cap :=
  ⟨o.box h.box (hn q (Or.inl rfl)), own_off h.own o fun g k c e => hn _ (Or.inr (Or.inl ⟨g, by injection e, rfl⟩)), fun f hf => ⟨(h.rows f hf).1.any o fun b e => hn _ (Or.inr (Or.inr ⟨f, hf, b, e, rfl⟩)), fun b e => ⟨((h.rows f hf).2 b e).1, Nat.lt_of_lt_of_le ((h.rows f hf).2 b e).2 o.size⟩⟩⟩
theorem RDk.below {W W' : World} {q room : Nat} {L : List Fil} {a : Option Addr} {cap : Nat} (h : RDk W q room L a cap) (b : Below W.heap.size W W') : RDk W' q room L a cap := h.off (Off.of (S := fun _ => False) b) fun _ _ h => h
theorem RDk.lt {W : World} {q room : Nat} {L : List Fil} {a : Option Addr} {cap : Nat} (h : RDk W q room L a cap) {k : Nat} (hk : ROwn q a L k) : k < W.heap.size := by
  rcases hk with rfl | ⟨g, rfl, rfl⟩ | ⟨f, hf, b, e, rfl⟩
  · exact h.box.lt
  · obtain ⟨a', cap', e, _, _, _, h5⟩ := own_cells h.own
    injection e with e1
    exact (h5 g e1.symm).2.1
  · exact ((h.rows f hf).2 b e).2
theorem RDC.off {S : Nat → Prop} {W W' : World} {q room : Nat} {C : List CF} {O : Nat → Prop} (h : RDC W q room C O) (o : Off S W W') (hn : ∀ k, k < W.heap.size → O k → ¬ S k) : RDC W' q room C O := by
  obtain ⟨L, a, cap, h1, h2, h3⟩ := h
  exact ⟨L, a, cap, h1.off o fun k hk => hn k (h1.lt hk) (h3 k hk), h2, h3⟩
theorem RDC.below {W W' : World} {q room : Nat} {C : List CF} {O : Nat → Prop} (h : RDC W q room C O) (b : Below W.heap.size W W') : RDC W' q room C O := h.off (Off.of (S := fun _ => False) b) fun _ _ _ h => h
theorem RDC.mono {W : World} {q room : Nat} {C : List CF} {O O' : Nat → Prop} (h : RDC W q room C O) (b : ∀ k, O k → k < W.heap.size → O' k) : RDC W q room C O' := by
  obtain ⟨L, a, cap, h1, h2, h3⟩ := h
  exact ⟨L, a, cap, h1, h2, fun k hk => b k (h3 k hk) (h1.lt hk)⟩
/-- Behind a call. -/
def AftR (w w' : World) (q room : Nat) (C : List CF) (O : Nat → Prop) : Prop := RDC w' q room C (fun k => O k ∨ w.heap.size ≤ k) ∧ Off (fun k => k = q) w w'
theorem AftR.keep {w w' : World} {q room : Nat} {C : List CF} {O : Nat → Prop} (h : RDC w q room C O) (b : Below w.heap.size w w') : AftR w w' q room C O := ⟨(h.below b).mono fun k hk _ => Or.inl hk, Off.of b⟩
/-- The files as they are read. -/
theorem RDk.file {W : World} {q room : Nat} {L : List Fil} {a : Option Addr} {cap : Nat} (h : RDk W q room L a cap) {i : Nat} {f : Fil} (hf : L[i]? = some f) : ∃ g, a = some ⟨g, 0, none⟩ ∧ q < g ∧ W.cell? ⟨g, i * 3, none⟩ = some (.string f.nm) ∧ W.cell? ⟨g, i * 3 + 1, none⟩ = some (.slice f.ad f.bs.length f.cap) ∧ W.cell? ⟨g, i * 3 + 2, none⟩ = some (.int .i64 f.last) := by
  obtain ⟨a', cap', e, hc, _, _, h5⟩ := own_cells h.own
  injection e with e1 _ e3
  subst e1 e3
  obtain ⟨x1, x2, x3⟩ := fcs_at hf
  obtain ⟨b, off, rfl, c1⟩ := hc _ _ x1
  obtain ⟨b', off', e2, c2⟩ := hc _ _ x2
  cases e2
  obtain ⟨b', off', e2, c3⟩ := hc _ _ x3
  cases e2
  obtain ⟨y1, _, y3, _⟩ := h5 _ rfl
  simp only at y1 y3
  subst y3
  simp only [Nat.zero_add] at c1 c2 c3
  exact ⟨b, rfl, by omega, c1, c2, c3⟩
theorem RDk.c0 {W : World} {q room : Nat} {L : List Fil} {a : Option Addr} {cap : Nat} (h : RDk W q room L a cap) : W.cell? ⟨q, 0, none⟩ = some (.int .i64 room) := h.box.cell 0
theorem RDk.c1 {W : World} {q room : Nat} {L : List Fil} {a : Option Addr} {cap : Nat} (h : RDk W q room L a cap) : W.cell? ⟨q, 1, none⟩ = some (.slice a L.length cap) := h.box.cell 1
theorem RDk.f1 {W : World} {q room : Nat} {L : List Fil} {a : Option Addr} {cap : Nat} (h : RDk W q room L a cap) : W.frozen? ⟨q, 1, none⟩ = false := h.box.frozen 1
end Go.Proofs.Ytbjhcbiihekceaa
