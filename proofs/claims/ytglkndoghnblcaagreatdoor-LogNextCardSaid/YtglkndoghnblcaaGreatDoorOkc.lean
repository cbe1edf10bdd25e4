/- known: the chapter's rows. Part 3. -/
import Derived.Test.YtglkndoghnblcaaGreatDoorOkb
import Derived.Test.YtglkndoghnblcaaGreatDoorOka
namespace Go.Proofs.YtglkndoghnblcaaGreatDoor
open Go.ChangeShapes Go.WideShapes Go.ChangeAt Go.RowKit
set_option linter.unusedVariables false
set_option linter.unusedSimpArgs false
theorem okK_each {e s : Int} {xs : List WtP} : ∀ k, okK e s xs k = true → (tidB e s = true ∧ inB (xs.length : Int) 1 16 = true) ∧ ∀ j x, j < k → xs[j]? = some x → wtB x = true
  | 0, h => by
    have h : (tidB e s && inB (xs.length : Int) 1 16) = true := h
    rw [Bool.and_eq_true] at h
    exact ⟨h, fun j x hj => absurd hj (Nat.not_lt_zero _)⟩
  | k + 1, h => by
    cases hx : xs[k]? with
    | none =>
      have h2 : okK e s xs k = true := by
        have : okK e s xs (k + 1) = okK e s xs k := by
          show (match xs[k]? with | some x => (okK e s xs k && wtB x) && (if k = 0 then true else match xs[k - 1]? with | some l => decide (orV (cmpN l.tab x.tab) (cmpI l.key x.key) < 0) | none => true) | none => okK e s xs k) = _
          rw [hx]
        rw [← this]; exact h
      obtain ⟨i1, i2⟩ := okK_each k h2
      refine ⟨i1, fun j x hj hjx => ?_⟩
      by_cases e1 : j = k
      · subst e1; rw [hx] at hjx; cases hjx
      · exact i2 j x (by omega) hjx
    | some y =>
      have h3 : ((okK e s xs k && wtB y) && (if k = 0 then true else match xs[k - 1]? with | some l => decide (orV (cmpN l.tab y.tab) (cmpI l.key y.key) < 0) | none => true)) = true := by
        have : okK e s xs (k + 1) = ((okK e s xs k && wtB y) && (if k = 0 then true else match xs[k - 1]? with | some l => decide (orV (cmpN l.tab y.tab) (cmpI l.key y.key) < 0) | none => true)) := by
          show (match xs[k]? with | some x => (okK e s xs k && wtB x) && (if k = 0 then true else match xs[k - 1]? with | some l => decide (orV (cmpN l.tab x.tab) (cmpI l.key x.key) < 0) | none => true) | none => okK e s xs k) = _
          rw [hx]
        rw [← this]; exact h
      rw [Bool.and_eq_true, Bool.and_eq_true] at h3
      obtain ⟨i1, i2⟩ := okK_each k h3.1.1
      refine ⟨i1, fun j x hj hjx => ?_⟩
      by_cases e1 : j = k
      · subst e1; rw [hx] at hjx; cases hjx; exact h3.1.2
      · exact i2 j x (by omega) hjx
theorem inB_iff {x lo hi : Int} : inB x lo hi = true ↔ lo ≤ x ∧ x ≤ hi := by unfold inB; exact decide_eq_true_iff
theorem bsw_bound {R : List P1} (m1 : ∀ p ∈ R, p.bs.length ≤ 24) (m3 : R.length ≤ 3) : (putL bsW R).length ≤ 1000 := by
  have hfl : (R.map bsW).flatten.length ≤ 300 := by
    match R, m3, m1 with
    | [], _, _ => simp
    | [p], _, m1 => simp only [List.map_cons, List.map_nil, List.flatten_cons, List.flatten_nil, List.length_append, List.length_nil]; have := m1 p (by simp); have := bytesW_len p.bs (by omega); unfold bsW; omega
    | [p, q], _, m1 => simp only [List.map_cons, List.map_nil, List.flatten_cons, List.flatten_nil, List.length_append, List.length_nil]; have := m1 p (by simp); have := bytesW_len p.bs (by omega); have := m1 q (by simp); have := bytesW_len q.bs (by omega); unfold bsW; omega
    | [p, q, r], _, m1 => simp only [List.map_cons, List.map_nil, List.flatten_cons, List.flatten_nil, List.length_append, List.length_nil]; have := m1 p (by simp); have := bytesW_len p.bs (by omega); have := m1 q (by simp); have := bytesW_len q.bs (by omega); have := m1 r (by simp); have := bytesW_len r.bs (by omega); unfold bsW; omega
  rw [putL_len]
  have := numW_ten R.length (by omega)
  omega
/-- What a write that may be has. -/
theorem wtB_facts {x : WtP} (h : wtB x = true) : ∃ t : Nat, x.tab = (t : Int) ∧ t ≤ 3 ∧ x.key.length ≤ 32 ∧ 1 ≤ x.key.length ∧ (x.R.length = 0 ∨ mayR x.R = true) ∧ (putL bsW x.R).length ≤ 1000 := by
  unfold wtB at h
  rw [Bool.and_eq_true, Bool.and_eq_true, inB_iff] at h
  obtain ⟨h1, h2, h3⟩ := h
  have h2 := of_decide_eq_true h2
  rw [Bool.or_eq_true] at h3
  have h3 : x.R.length = 0 ∨ mayR x.R = true := h3.imp of_decide_eq_true id
  refine ⟨x.tab.toNat, by omega, by omega, h2.2, h2.1, h3, ?_⟩
  rcases h3 with h3 | h3
  · have : x.R = [] := List.length_eq_zero_iff.1 h3
    rw [this]
    exact bsw_bound (by simp) (by simp)
  · obtain ⟨m1, m2, m3⟩ := (mayR_iff _).1 h3
    exact bsw_bound m1 m3
theorem wtW_len {x : WtP} (h : wtB x = true) : (wtW x).length ≤ 1100 := by
  obtain ⟨t, h1, h2, h3, h4, h5, h6⟩ := wtB_facts h
  unfold wtW
  rw [List.length_append, List.length_append, List.length_append]
  have := numW_ten x.tab.toNat (by omega)
  have := bytesW_len x.key (by omega)
  have h7 : (if 0 < x.R.length then bytesW (putL bsW x.R) else []).length ≤ 1010 := by
    split
    · have := bytesW_len (putL bsW x.R) (by omega); omega
    · simp
  simp only [List.length_cons, List.length_nil]
  omega
theorem flat_bound {α : Type} (put : α → List Int) (m : Nat) : ∀ xs : List α, (∀ x ∈ xs, (put x).length ≤ m) → (xs.map put).flatten.length ≤ xs.length * m
  | [], _ => by simp
  | x :: r, h => by
    have h1 := h x (by simp)
    have h2 := flat_bound put m r fun y hy => h y (by simp [hy])
    simp only [List.map_cons, List.flatten_cons, List.length_append, List.length_cons]
    rw [Nat.add_mul]
    omega
/-- A transaction's payload. -/
def txW (e s : Nat) (xs : List WtP) : List Int := tidW e s ++ putL wtW xs
theorem txB_facts {e s : Int} {xs : List WtP} (h : txB e s xs = true) : (∃ en sn : Nat, e = (en : Int) ∧ s = (sn : Int) ∧ 1 ≤ en ∧ en ≤ 16777215 ∧ 1 ≤ sn ∧ sn ≤ 2147483647) ∧ 1 ≤ xs.length ∧ xs.length ≤ 16 ∧ (∀ x ∈ xs, wtB x = true) ∧ (putL wtW xs).length ≤ 20000 := by
  obtain ⟨⟨h1, h2⟩, h3⟩ := okK_each _ h
  unfold tidB at h1
  rw [Bool.and_eq_true, inB_iff, inB_iff] at h1
  rw [inB_iff] at h2
  have h4 : ∀ x ∈ xs, wtB x = true := fun x hx => by
    obtain ⟨j, hj, rfl⟩ := List.mem_iff_getElem.1 hx
    exact h3 j _ hj (List.getElem?_eq_getElem hj)
  refine ⟨⟨e.toNat, s.toNat, by omega, by omega, by omega, by omega, by omega, by omega⟩, by omega, by omega, h4, ?_⟩
  rw [putL_len]
  have h5 := flat_bound wtW 1100 xs fun x hx => wtW_len (h4 x hx)
  have h6 : xs.length * 1100 ≤ 16 * 1100 := Nat.mul_le_mul_right _ (by omega)
  have := numW_ten xs.length (by omega)
  omega
theorem numW_pos (n : Nat) : 0 < (numW n).length := List.length_pos_iff.2 (numW_ne n)
theorem txW_len {en sn : Nat} {xs : List WtP} (he : en ≤ 16777215) (hs : sn ≤ 2147483647) (hp : (putL wtW xs).length ≤ 20000) : 1 ≤ (txW en sn xs).length ∧ (txW en sn xs).length ≤ 20020 := by
  unfold txW tidW
  rw [List.length_append, List.length_append]
  have := numW_ten en (by omega)
  have := numW_ten sn (by omega)
  have := numW_pos en
  omega
theorem putL_byt {α : Type} {put : α → List Int} {xs : List α} (h : ∀ x ∈ xs, Byt (put x)) : Byt (putL put xs) := by
  intro y hy
  rcases List.mem_append.1 hy with h1 | h1
  · exact numW_byt _ y h1
  · obtain ⟨l, hl, hyl⟩ := List.mem_flatten.1 h1
    obtain ⟨x, hx, rfl⟩ := List.mem_map.1 hl
    exact h x hx y hyl
theorem wtW_byt {x : WtP} (h1 : Byt x.key) (h2 : ∀ p ∈ x.R, Byt p.bs) : Byt (wtW x) := by
  unfold wtW
  refine Byt.append (Byt.append (numW_byt _) (Byt.append (bytesW_byt h1) ?_)) ?_
  · intro y hy
    rw [List.mem_singleton] at hy
    subst hy
    split <;> omega
  · split
    · exact bytesW_byt (putL_byt fun p hp => bytesW_byt (h2 p hp))
    · intro y hy; cases hy
theorem txW_byt {en sn : Nat} {xs : List WtP} (h : ∀ x ∈ xs, Byt x.key ∧ ∀ p ∈ x.R, Byt p.bs) : Byt (txW en sn xs) := by
  unfold txW tidW
  exact Byt.append (Byt.append (numW_byt _) (numW_byt _)) (putL_byt fun x hx => wtW_byt (h x hx).1 (h x hx).2)
/-- What PutTxn answers. -/
def PtxR (w : World) (e s : Int) (xs : List WtP) (r : Ending) (w' : World) : Prop :=
  (txB e s xs = false ∧ r = .returned (.tuple #[.slice none 0 0, .int .i64 2]) ∧ Below w.heap.size w w') ∨
  (txB e s xs = true ∧ 4096 < (txW e.toNat s.toNat xs).length ∧ r = .returned (.tuple #[.slice none 0 0, .int .i64 3]) ∧ Below w.heap.size w w') ∨
  (txB e s xs = true ∧ 1 ≤ (txW e.toNat s.toNat xs).length ∧ (txW e.toNat s.toNat xs).length ≤ 4096 ∧ ∃ a' c', r = .returned (.tuple #[.slice a' (8 + (txW e.toNat s.toNat xs).length) c', .int .i64 0]) ∧ w'.ownsRow w.heap.size 5 1 (.slice a' (8 + (txW e.toNat s.toNat xs).length) c') (8 + (txW e.toNat s.toNat xs).length) (iv .u8 (frameL (txW e.toNat s.toNat xs))) ∧ Ls .u8 w' a' c' (frameL (txW e.toNat s.toNat xs)) ∧ Below w.heap.size w w')
set_option maxRecDepth 100000 in
set_option maxHeartbeats 4000000 in
/-- PutTxn (19). -/
theorem puttxn_law (e s : Int) (a : Option Addr) (xs : List WtP) (n cap : Nat) (hn : xs.length = n) (hn2 : n ≤ 1000000) (hrl : ∀ x ∈ xs, x.R.length ≤ 1000000) (w : World) (hR : WtsR w a xs) :
    Calls Tryz.prog 23 #[.agg #[.int .i64 e, .int .i64 s, .slice a n cap]] w (PtxR w e s xs) := by
  have HM := Lib.hid (fun W (b : Below w.heap.size w W) => maytxn_law e s a xs n cap hn hn2 hrl W (hR.below b))
  have HR := Lib.hid hR
  have HN := Lib.hid hn
  cases hb : txB e s xs with
  | false =>
    have HB := Lib.hid hb
    rw [hb] at HM
    clear hb hn hrl hR
    go_enter Tryz.func23, Tryz.ntmps23
    go_wp2_with fail
    refine (HM.out _ (bl1 _ _)).mono ?_; rintro r w1 ⟨rfl, hb1⟩
    have HB1 := Lib.hid (step_below (bl1 w _) hb1)
    clear hb1
    go_wp2_with fail
    go_ret2
    exact Or.inl ⟨HB.out, rfl, HB1.out⟩
  | true =>
    obtain ⟨⟨en, sn, rfl, rfl, e1, e2, s1, s2⟩, l1, l2, hw, hpl⟩ := txB_facts hb
    have hlen := txW_len (xs := xs) e2 s2 hpl
    have HB := Lib.hid hb
    rw [hb] at HM
    have HWT := Lib.hid hw
    have HTB := Lib.hid (show Byt (txW en sn xs) from txW_byt fun x hx => by
      obtain ⟨j, hj, hjx⟩ := List.mem_iff_getElem.1 hx
      obtain ⟨b, off, _, _, _, _, ok⟩ := hR j x (by rw [List.getElem?_eq_getElem hj, hjx])
      exact ⟨ok.kb, ok.rb⟩)
    have HPL := Lib.hid hpl
    have HLEN := Lib.hid hlen
    clear hb hn hrl hR hw hpl hlen
    have HPW := Lib.hid (fun W (b : Below w.heap.size w W) => putwrites_own a xs n cap HN.out hn2 (by have := HPL.out; omega) W (HR.out.below b) (fun k x hx W' b' => by
      obtain ⟨bb, off, _, _, _, _, ok⟩ := ((HR.out.below b).below b') k x hx
      obtain ⟨t, t1, t2, t3, t4, t5, t6⟩ := wtB_facts (HWT.out x (List.mem_of_getElem? hx))
      exact putwrite_own x t t1 (by omega) t3 t5 t6 W' ok))
    go_enter Tryz.func23, Tryz.ntmps23
    go_wp2_with fail
    obtain ⟨W0, hW0⟩ : ∃ W0, w.alloc (.cells #[.int .i64 (en : Int), .int .i64 (sn : Int), .slice a n cap] 62) = W0 := ⟨_, rfl⟩
    have hb0 : Below w.heap.size w W0 := by rw [← hW0]; exact bl1 _ _
    have bx : BoxC W0 w.heap.size #[.int .i64 (en : Int), .int .i64 (sn : Int), .slice a n cap] 62 := by rw [← hW0]; exact BoxC.new w _ 62
    rw [hW0]
    clear hW0
    refine (HM.out _ hb0).mono ?_; rintro r w1 ⟨rfl, hb1⟩
    have HB1 := Lib.hid (step_below hb0 hb1)
    have bx1 := bx.below hb1
    have BX1 := Lib.hid bx1
    have z2 := bx1.cell 2
    simp only [List.getElem?_toArray, List.getElem?_cons_zero, List.getElem?_cons_succ] at z2
    clear hb1 bx1 hb0 bx
    obtain ⟨pl, hplx⟩ : ∃ pl, (putL wtW xs).length = pl := ⟨_, rfl⟩
    have HPX := Lib.hid hplx
    rw [hplx] at HPW HPL
    clear hplx
    go_wp2_with fail
    refine (HPW.out _ HB1.out).mono ?_
    rintro r w2 ⟨a2, c2, rfl, ho2, hl2, hb2⟩
    have HL2 := Lib.hid hl2.ls
    have HB2 := Lib.hid (step_below HB1.out hb2)
    have bx2 := BX1.out.below hb2
    have z0 := bx2.cell 0
    have z1 := bx2.cell 1
    simp only [List.getElem?_toArray, List.getElem?_cons_zero, List.getElem?_cons_succ] at z0 z1
    clear ho2 hl2 hb2 bx2 z2
    go_wp2_with fail
    refine (puttid_own en sn (by omega) (by omega) _).mono ?_
    rintro r w3 ⟨a3, c3, rfl, ho3, hl3, hb3⟩
    have HL3 := Lib.hid (And.intro hl3.ls (HL2.out.below hb3))
    have HB3 := Lib.hid (step_below HB2.out hb3)
    clear ho3 hl3 hb3 z0 z1
    have hfl : flat [⟨a3, c3, tidW en sn⟩, ⟨a2, c2, putL wtW xs⟩] = txW en sn xs := by unfold flat txW; simp
    have hRR := rdR_new w3 [⟨a3, c3, tidW en sn⟩, ⟨a2, c2, putL wtW xs⟩] #[.slice a3 (tidW en sn).length c3, .slice a2 pl c2] 54 (0, 0) (by simp only [List.map_cons, List.map_nil, P1.v, HPX.out]) (by
      intro p hp
      simp only [List.mem_cons, List.not_mem_nil, or_false] at hp
      rcases hp with rfl | rfl
      · exact HL3.out.1
      · exact HL3.out.2)
    have hj := join_own (some ⟨w3.heap.size, 0, none⟩) _ 2 2 rfl (by omega) (by rw [hfl]; have := HLEN.out; omega) _ hRR
    rw [hfl] at hj
    have HJ := Lib.hid hj
    clear hj hRR hfl
    obtain ⟨P, hP⟩ : ∃ P, txW en sn xs = P := ⟨_, rfl⟩
    have HPP := Lib.hid hP
    rw [hP] at HJ HLEN HTB
    obtain ⟨q, hq⟩ : ∃ q, P.length = q := ⟨_, rfl⟩
    have HQ := Lib.hid hq
    rw [hq] at HJ HLEN
    obtain ⟨tl, htl⟩ : ∃ tl, (tidW en sn).length = tl := ⟨_, rfl⟩
    rw [htl] at HJ ⊢
    clear hP hq htl
    go_wp2_with fail
    refine HJ.out.mono ?_
    rintro r w4 ⟨a4, c4, rfl, hl4, ho4, hb4⟩
    have HB4 := Lib.hid (step_below HB3.out (step_below (bl1 w3 _) hb4))
    have HF := Lib.hid (frame_law a4 P q c4 HQ.out (by have := HLEN.out; omega) HTB.out w4 hl4)
    clear hl4 ho4 hb4
    go_wp2_with fail
    refine HF.out.mono ?_
    rintro r w5 h5
    rcases h5 with ⟨h0, rfl, rfl⟩ | ⟨h0, rfl, rfl⟩ | ⟨h0, h1, a5, c5, rfl, ho5, hl5, hb5⟩
    · exfalso
      have := HLEN.out
      rw [HQ.out] at h0
      omega
    · have HG := Lib.hid h0
      clear h0
      go_wp2_with fail
      go_ret2
      refine Or.inr (Or.inl ⟨HB.out, ?_, rfl, HB4.out⟩)
      rw [Int.toNat_natCast, Int.toNat_natCast, HPP.out]
      exact HG.out
    · have HG := Lib.hid (And.intro (And.intro h0 h1) (And.intro (own_base (b := w.heap.size) HB4.out.size ho5) (And.intro hl5 (step_below HB4.out hb5))))
      rw [HQ.out]
      clear h0 h1 ho5 hl5 hb5
      go_wp2_with fail
      go_ret2
      refine Or.inr (Or.inr ⟨HB.out, ?_, ?_, a5, c5, ?_⟩)
      · rw [Int.toNat_natCast, Int.toNat_natCast, HPP.out]; exact HG.out.1.1
      · rw [Int.toNat_natCast, Int.toNat_natCast, HPP.out]; exact HG.out.1.2
      · rw [Int.toNat_natCast, Int.toNat_natCast, HPP.out]
        exact ⟨by rw [HQ.out]; rfl, HG.out.2.1, HG.out.2.2.1, HG.out.2.2.2⟩
end Go.Proofs.YtglkndoghnblcaaGreatDoor
namespace Go.Proofs.YtglkndoghnblcaaGreatDoor
open Go.ChangeShapes Go.WideShapes Go.ChangeAt Go.RowKit
set_option linter.unusedVariables false
set_option linter.unusedSimpArgs false
/-- A reader in its block. -/
structure Rdr (W : World) (B : Nat) (ad : Option Addr) (cap n : Nat) (L : List Int) (at_ : Nat) : Prop where
  len : L.length = n
  c0 : W.cell? ⟨B, 0, none⟩ = some (.slice ad n cap)
  c1 : W.cell? ⟨B, 1, none⟩ = some (.int .i64 (at_ : Int))
  c2 : W.cell? ⟨B, 2, none⟩ = some (.bool true)
  f0 : W.frozen? ⟨B, 0, none⟩ = false
  f1 : W.frozen? ⟨B, 1, none⟩ = false
  f2 : W.frozen? ⟨B, 2, none⟩ = false
  ls : ∀ W', (∀ k b off, ad = some ⟨b, off, none⟩ → W'.cell? ⟨b, off + k, none⟩ = W.cell? ⟨b, off + k, none⟩) → Ls .u8 W' ad cap L
  le : at_ ≤ n
  apart : ∀ b off, ad = some ⟨b, off, none⟩ → b < B
theorem Rdr.lt {W : World} {B : Nat} {ad : Option Addr} {cap n : Nat} {L : List Int} {p : Nat} (h : Rdr W B ad cap n L p) : B < W.heap.size := World.block_lt_of_cell? W _ h.c0
theorem Rdr.here {W : World} {B : Nat} {ad : Option Addr} {cap n : Nat} {L : List Int} {p : Nat} (h : Rdr W B ad cap n L p) : Ls .u8 W ad cap L := h.ls W fun _ _ _ _ => rfl
theorem Rdr.below {W W' : World} {B : Nat} {ad : Option Addr} {cap n : Nat} {L : List Int} {p : Nat} (h : Rdr W B ad cap n L p) (b : Below W.heap.size W W') : Rdr W' B ad cap n L p := by
  have hl := h.lt
  refine ⟨h.len, (b.cell (p := ⟨B, 0, none⟩) hl).trans h.c0, (b.cell (p := ⟨B, 1, none⟩) hl).trans h.c1, (b.cell (p := ⟨B, 2, none⟩) hl).trans h.c2, (b.frozen (p := ⟨B, 0, none⟩) hl).trans h.f0, (b.frozen (p := ⟨B, 1, none⟩) hl).trans h.f1, (b.frozen (p := ⟨B, 2, none⟩) hl).trans h.f2, fun W2 h2 => ?_, h.le, h.apart⟩
  refine h.ls W2 fun k b' off e => ?_
  rw [h2 k b' off e]
  exact b.cell (p := ⟨b', off + k, none⟩) (by have := h.apart b' off e; simp; omega)
theorem Rdr.move {W : World} {B : Nat} {ad : Option Addr} {cap n : Nat} {L : List Int} {p : Nat} (h : Rdr W B ad cap n L p) (q : Nat) (hq : q ≤ n) : Rdr (W.setCell ⟨B, 1, none⟩ (.int .i64 (q : Int))) B ad cap n L q := by
  refine ⟨h.len, ?_, World.cell?_setCell_same W _ _ h.c1, ?_, by rw [World.frozen?_setCell]; exact h.f0, by rw [World.frozen?_setCell]; exact h.f1, by rw [World.frozen?_setCell]; exact h.f2, fun W2 h2 => ?_, hq, h.apart⟩
  · rw [World.cell?_setCell_other W ⟨B, 1, none⟩ ⟨B, 0, none⟩ _ (fun q => by simp at q)]; exact h.c0
  · rw [World.cell?_setCell_other W ⟨B, 1, none⟩ ⟨B, 2, none⟩ _ (fun q => by simp at q)]; exact h.c2
  · refine h.ls W2 fun k b' off e => ?_
    rw [h2 k b' off e]
    have := h.apart b' off e
    exact World.cell?_setCell_other W ⟨B, 1, none⟩ ⟨b', off + k, none⟩ _ (fun q => by simp at q <;> omega)
theorem none_law {W : World} {B : Nat} {ad : Option Addr} {cap n : Nat} {L : List Int} {p : Nat} (h : Rdr W B ad cap n L p) :
    Calls Tryz.prog 138 #[.pointer (some ⟨B, 0, none⟩)] W fun r w' => r = .returned (.bool false) ∧ W = w' := by
  have c2 := h.c2
  clear h
  go_enter Tryz.func138, Tryz.ntmps138
  go_wp2
  go_ret
  exact ⟨rfl, rfl⟩
set_option maxHeartbeats 1000000 in
theorem left_law {W : World} {B : Nat} {ad : Option Addr} {cap n : Nat} {L : List Int} {p : Nat} (h : Rdr W B ad cap n L p) (hn : n ≤ 1000000) :
    Calls Tryz.prog 139 #[.pointer (some ⟨B, 0, none⟩)] W fun r w' => r = .returned (.int .i64 ((n - p : Nat) : Int)) ∧ Below W.heap.size W w' := by
  have c0 := h.c0
  have c1 := h.c1
  have hle := h.le
  have H := Lib.hid h
  have hi : (n : Int) ≤ 1000000 := by omega
  have hj : (p : Int) ≤ (n : Int) := by omega
  have e : ((n - p : Nat) : Int) = (n : Int) - (p : Int) := by omega
  rw [e]
  clear h e hle
  go_enter Tryz.func139, Tryz.ntmps139
  go_wp2_with fail
  refine (none_law H.out).mono ?_; rintro e w' ⟨rfl, rfl⟩
  go_wp2_with fail
  go_quiet (fail)
  go_wp2_with fail
  go_ret
  exact ⟨rfl, below_drewN (Below.refl _ _) _⟩

theorem oth_trans {a b c : World} {row : Option Nat} (h : a.grownBy b row) (k : b.grownBy c row) : a.grownBy c row :=
  ⟨k.os.trans h.os, k.tape.trans h.tape, k.output.trans h.output, Nat.le_trans h.size k.size, fun i hi hne => (k.block i (Nat.lt_of_lt_of_le hi h.size) hne).trans (h.block i hi hne)⟩
theorem oth_set (W : World) (B o : Nat) (v : Value) : W.grownBy (W.setCell ⟨B, o, none⟩ v) (some B) := by
  have b := (Below.refl B W).setCell (p := ⟨B, o, none⟩) (Nat.le_refl _) v
  exact ⟨b.os, b.tape, b.output, b.size, fun k hk hne => Below.heap_setCell W ⟨B, o, none⟩ v k (fun e => hne (by rw [e]))⟩
theorem oth_below {W W' : World} (B : Nat) (h : Below W.heap.size W W') : W.grownBy W' (some B) := ⟨h.os, h.tape, h.output, h.size, fun k hk _ => h.block k hk⟩
theorem below_oth {N B : Nat} {w W W' : World} (h : Below N w W) (k : W.grownBy W' (some B)) (hN : N ≤ W.heap.size) (hB : N ≤ B) : Below N w W' := h.grown k hN (fun j hj => by cases hj; exact hB)
theorem and127 : ∀ c : Fin 256, bits .and .u8 ((c.val : Nat) : Int) 127 = ((c.val % 128 : Nat) : Int) := by decide +kernel
theorem and128 : ∀ c : Fin 256, bits .and .u8 ((c.val : Nat) : Int) 128 = if c.val < 128 then 0 else 128 := by decide +kernel
theorem digit_or (acc d k : Nat) (ha : acc < 128 ^ k) (hk : k ≤ 9) (hd : d < 128) (h9 : k = 9 → d ≤ 1) :
    bits .or .u64 (acc : Int) (IntKind.u64.wrap (IntKind.u64.wrap (d : Int) * 2 ^ (7 * k))) = ((acc + d * 128 ^ k : Nat) : Int) := by
  have e1 : IntKind.u64.wrap (d : Int) = (d : Int) := by rw [IntKind.wrap_u64]; omega
  have e2 : (2 : Nat) ^ (7 * k) = 128 ^ k := by rw [Nat.pow_mul]
  have e3 : (d : Int) * 2 ^ (7 * k) = ((d * 128 ^ k : Nat) : Int) := by rw [← e2]; push_cast; rfl
  have hp9 : (128 : Nat) ^ 9 = 9223372036854775808 := by decide
  have hp8 : (128 : Nat) ^ 8 = 72057594037927936 := by decide
  have hlt : d * 128 ^ k ≤ 9223372036854775808 := by
    by_cases h : k = 9
    · subst h
      rw [hp9]
      have := h9 rfl
      have : d * 9223372036854775808 ≤ 1 * 9223372036854775808 := Nat.mul_le_mul_right _ this
      omega
    · have h8 : 128 ^ k ≤ 128 ^ 8 := Nat.pow_le_pow_right (by decide) (by omega)
      have : d * 128 ^ k ≤ 127 * 128 ^ 8 := Nat.mul_le_mul (by omega) h8
      rw [hp8] at this
      omega
  have hacc : acc < 9223372036854775808 := by
    have : 128 ^ k ≤ 128 ^ 9 := Nat.pow_le_pow_right (by decide) hk
    rw [hp9] at this
    omega
  have e4 : IntKind.u64.wrap ((d * 128 ^ k : Nat) : Int) = ((d * 128 ^ k : Nat) : Int) := by rw [IntKind.wrap_u64]; omega
  rw [e1, e3, e4, u64_or_nat acc (d * 128 ^ k) (by omega) (by omega)]
  congr 1
  have := Nat.two_pow_add_eq_or_of_lt (i := 7 * k) (b := acc) (by rw [e2]; exact ha) d
  rw [e2, Nat.mul_comm (128 ^ k) d] at this
  rw [Nat.or_comm, ← this]
  omega
/-- What the reader's Number answers. -/
def NumR (W : World) (B : Nat) (ad : Option Addr) (cap n : Nat) (L : List Int) (p : Nat) (r : Ending) (w' : World) : Prop :=
  ((numR 0 0 (L.drop p) = none ∧ r = .returned (.tuple #[.int .u64 0, .int .i64 4]) ∧ Rdr w' B ad cap n L p) ∨
    ∃ v j : Nat, numR 0 0 (L.drop p) = some (v, j) ∧ v < 18446744073709551616 ∧ p + j ≤ n ∧ r = .returned (.tuple #[.int .u64 (v : Int), .int .i64 0]) ∧ Rdr w' B ad cap n L (p + j)) ∧ W.grownBy w' (some B)
theorem numR_cons (k acc : Nat) (c : Int) (r : List Int) : numR k acc (c :: r) = if (k = 9 ∧ 1 < c) ∨ (0 < k ∧ c = 0) then none else if c < 128 then some (acc + c.toNat * 128 ^ k, k + 1) else numR (k + 1) (acc + (c.toNat - 128) * 128 ^ k) r := rfl
theorem drop_cons {D : List Int} {k : Nat} (h : k < D.length) : D.drop k = D.getD k 0 :: D.drop (k + 1) := by
  rw [List.drop_eq_getElem_cons h]
  simp [List.getD, List.getElem?_eq_getElem h]
set_option maxRecDepth 100000 in
set_option maxHeartbeats 4000000 in
/-- Number (147). -/
theorem number_law {W : World} {B : Nat} {ad : Option Addr} {cap n : Nat} {L : List Int} {p : Nat} (h : Rdr W B ad cap n L p) (hn : n ≤ 1000000) (hB : Byt L) :
    Calls Tryz.prog 112 #[.pointer (some ⟨B, 0, none⟩)] W (NumR W B ad cap n L p) := by
  have c0 := h.c0
  have c1 := h.c1
  have f1 := h.f1
  have hp := h.le
  have H := Lib.hid h
  have hi : (n : Int) ≤ 1000000 := by omega
  have hj : (p : Int) ≤ (n : Int) := by omega
  obtain ⟨a', c', s', l'⟩ := h.here.lo eltB n p h.len (by omega)
  obtain ⟨m, hm⟩ : ∃ m, n - p = m := ⟨_, rfl⟩
  rw [hm] at s'
  have hlm : (L.drop p).length = m := by rw [List.length_drop, h.len, hm]
  have HB := Lib.hid (hB.drop p)
  have HLM := Lib.hid hlm
  have HL' := Lib.hid l'
  have HM := Lib.hid hm
  have hmi : (m : Int) ≤ 1000000 := by omega
  obtain ⟨D, hD⟩ : ∃ D, L.drop p = D := ⟨_, rfl⟩
  have HD := Lib.hid hD
  rw [hD] at HB HLM HL'
  clear h hm l' hlm hB hD hp
  go_enter Tryz.func112, Tryz.ntmps112
  go_wp2_with fail
  go_step3
  go_wp2_with fail
  refine (none_law H.out).mono ?_; rintro e w' ⟨rfl, rfl⟩
  go_wp2_with fail
  go_step3
  go_wp2_with fail
  go_quiet (fail)
  go_wp2_with fail
  go_loopw [4, 19] (fun v i wr => ∃ (k acc : Nat), k ≤ m ∧ k ≤ 9 ∧ v = .int .u64 (acc : Int) ∧ i = .int .i64 (k : Int) ∧ Hid (acc < 128 ^ k ∧ numR 0 0 D = numR k acc (D.drop k)) ∧ Below W.heap.size W wr) (fun _ i _ => m - (intOf i).toNat)
  case atStart => exact ⟨0, 0, by omega, by omega, rfl, rfl, Lib.hid ⟨by decide, rfl⟩, below_drewN (Below.refl _ _) _⟩
  case round =>
    obtain ⟨k, acc, hk, hk9, rfl, rfl, HACC, BW⟩ := hrel
    have HR := H.out.below BW
    have r1 := HR.c1
    have g1 := HR.f1
    have HH := Lib.hid HR
    have BB := Lib.hid BW
    by_cases hlt : k < m
    · have hkl : (k : Int) < (m : Int) := by omega
      obtain ⟨b1, o1, e1, d1⟩ := HL'.out.get k (by rw [HLM.out]; exact hlt)
      have d2 := (BW.cell (p := ⟨b1, o1 + k, none⟩) (World.block_lt_of_cell? W _ d1)).trans d1
      obtain ⟨cb0, cb1⟩ := HB.out.get k (by rw [HLM.out]; exact hlt)
      obtain ⟨x, hx⟩ : ∃ x : Nat, D.getD k 0 = (x : Int) := ⟨(D.getD k 0).toNat, by omega⟩
      rw [hx] at d2 cb0 cb1
      have hx256 : x < 256 := by omega
      have HN := Lib.hid (show numR 0 0 D = (if (k = 9 ∧ (1 : Int) < (x : Int)) ∨ (0 < k ∧ (x : Int) = 0) then none else if (x : Int) < 128 then some (acc + x * 128 ^ k, k + 1) else numR (k + 1) (acc + (x - 128) * 128 ^ k) (D.drop (k + 1))) by
        rw [HACC.out.2, drop_cons (by rw [HLM.out]; exact hlt), hx, numR_cons, Int.toNat_natCast])
      have ha7 : bits .and .u8 (x : Int) 127 = ((x % 128 : Nat) : Int) := and127 ⟨x, hx256⟩
      obtain ⟨d, hd⟩ : ∃ d, x % 128 = d := ⟨_, rfl⟩
      rw [hd] at ha7
      have hd2 : d < 128 := by omega
      have tb : bits .and .u8 (x : Int) 128 = if x < 128 then 0 else 128 := and128 ⟨x, hx256⟩
      clear hx d1 HR BW c0 c1 f1
      subst e1
      by_cases hz : 0 < k ∧ x = 0
      · have k1 : (0 : Int) < (k : Int) := by omega
        have k2 : ((x : Int) == 0) = true := by simp; omega
        have k2' : (x == 0) = true := by simp; omega
        have HNO := Lib.hid (show numR 0 0 D = none by rw [HN.out, if_pos (Or.inr ⟨hz.1, by omega⟩)])
        clear tb ha7 hz
        go_wp2_with fail
        try rw [Exit.noGoto_ret]
        go_ret2
        exact ⟨.inl ⟨by rw [HD.out]; exact HNO.out, rfl, HH.out⟩, oth_below B BB.out⟩
      by_cases h9 : k = 9 ∧ 1 < x
      · have k1 : (0 : Int) < (k : Int) := by omega
        have k2 : ((x : Int) == 0) = false := by simp; omega
        have k2' : (x == 0) = false := by simp; omega
        have k3 : ((k : Int) == 9) = true := by simp; omega
        have k3' : (k == 9) = true := by simp; omega
        have k4 : (1 : Int) < (x : Int) := by omega
        have HNO := Lib.hid (show numR 0 0 D = none by rw [HN.out, if_pos (Or.inl ⟨h9.1, by omega⟩)])
        clear tb ha7 hz h9
        go_wp2_with fail
        try rw [Exit.noGoto_ret]
        go_ret2
        exact ⟨.inl ⟨by rw [HD.out]; exact HNO.out, rfl, HH.out⟩, oth_below B BB.out⟩
      have hor := digit_or acc d k HACC.out.1 hk9 hd2 (fun e => by omega)
      have HNE := Lib.hid (show ¬ ((k = 9 ∧ (1 : Int) < (x : Int)) ∨ (0 < k ∧ (x : Int) = 0)) by omega)
      have hp3 : IntKind.i64.wrap ((k : Int) + 1) = (k : Int) + 1 := by rw [IntKind.wrap_i64]; omega
      have hp2 : IntKind.i64.wrap ((p : Int) + ((k : Int) + 1)) = ((p + (k + 1) : Nat) : Int) := by rw [IntKind.wrap_i64] <;> omega
      obtain ⟨y, hy⟩ : ∃ y, acc + d * 128 ^ k = y := ⟨_, rfl⟩
      rw [hy] at hor
      have hwd : IntKind.u64.wrap (d : Int) = (d : Int) := by rw [IntKind.wrap_u64]; omega
      rw [hwd] at hor
      have hor0 : k = 0 → bits .or .u64 (acc : Int) (d : Int) = (y : Int) := fun e => by
        subst e
        have : IntKind.u64.wrap ((d : Int) * 2 ^ (7 * 0)) = (d : Int) := by simpa using hwd
        rwa [this] at hor
      by_cases h128 : x < 128
      · rw [if_pos h128] at tb
        have HYES := Lib.hid (show numR 0 0 D = some (y, k + 1) by rw [HN.out, if_neg HNE.out, if_pos (by omega), ← hy, show d = x by omega])
        have HYB := Lib.hid (numR_bd D 0 0 y (k + 1) HB.out (by omega) (by decide) HYES.out)
        have hmv := Lib.hid (HH.out.move (p + (k + 1)) (by have := HM.out; omega))
        have HPN := Lib.hid (show p + (k + 1) ≤ n by have := HM.out; omega)
        clear hy hd h128 hk
        by_cases hk0 : k = 0
        · subst hk0
          have hkl0 : (0 : Int) < (m : Int) := by omega
          rw [Nat.add_zero] at d2
          clear hkl hz h9
          go_wp2_with fail
          try rw [Exit.noGoto_ret]
          go_ret2
          exact ⟨.inr ⟨y, 0 + 1, by rw [HD.out]; exact HYES.out, HYB.out.1, HPN.out, rfl, hmv.out⟩, oth_trans (oth_below B BB.out) (oth_set _ _ _ _)⟩
        · clear hor0
          have k1 : (0 : Int) < (k : Int) := by omega
          have k2 : ((x : Int) == 0) = false := by simp; omega
          have k2' : (x == 0) = false := by simp; omega
          by_cases h99 : k = 9
          · have k3 : ((k : Int) == 9) = true := by simp; omega
            have k3' : (k == 9) = true := by simp; omega
            have k4 : ¬ (1 : Int) < (x : Int) := by omega
            clear hz h9 hk0 h99
            go_wp2_with fail
            try rw [Exit.noGoto_ret]
            go_ret2
            exact ⟨.inr ⟨y, k + 1, by rw [HD.out]; exact HYES.out, HYB.out.1, HPN.out, rfl, hmv.out⟩, oth_trans (oth_below B BB.out) (oth_set _ _ _ _)⟩
          · have k3 : ((k : Int) == 9) = false := by simp; omega
            have k3' : (k == 9) = false := by simp; omega
            clear hz h9 hk0 h99
            go_wp2_with fail
            try rw [Exit.noGoto_ret]
            go_ret2
            exact ⟨.inr ⟨y, k + 1, by rw [HD.out]; exact HYES.out, HYB.out.1, HPN.out, rfl, hmv.out⟩, oth_trans (oth_below B BB.out) (oth_set _ _ _ _)⟩
      · rw [if_neg h128] at tb
        have h9' : k ≠ 9 := by omega
        have HNX := Lib.hid (show y < 128 ^ (k + 1) ∧ numR 0 0 D = numR (k + 1) y (D.drop (k + 1)) by
          refine ⟨?_, by rw [HN.out, if_neg HNE.out, if_neg (by omega), ← hy, show d = x - 128 by omega]⟩
          rw [← hy, Nat.pow_succ]
          have h1 := HACC.out.1
          have : d * 128 ^ k ≤ 127 * 128 ^ k := Nat.mul_le_mul_right _ (by omega)
          omega)
        clear hy hd
        by_cases hk0 : k = 0
        · subst hk0
          have hkl0 : (0 : Int) < (m : Int) := by omega
          rw [Nat.add_zero] at d2
          clear hkl hz h9
          go_wp2_with fail
          go_roundw
          case rel => exact ⟨1, y, by omega, by omega, rfl, by go_num, HNX, BB.out⟩
          case measure => simp [intOf]; omega
        · clear hor0
          have k1 : (0 : Int) < (k : Int) := by omega
          have k2 : ((x : Int) == 0) = false := by simp; omega
          have k2' : (x == 0) = false := by simp; omega
          have k3 : ((k : Int) == 9) = false := by simp; omega
          have k3' : (k == 9) = false := by simp; omega
          clear hz h9
          go_wp2_with fail
          go_roundw
          case rel => exact ⟨k + 1, y, by omega, by omega, rfl, by go_num, HNX, BB.out⟩
          case measure => simp [intOf]; omega
    · have hkl : ¬ (k : Int) < (m : Int) := by omega
      have HNO := Lib.hid (show numR 0 0 D = none by rw [HACC.out.2, List.drop_of_length_le (by rw [HLM.out]; omega)]; rfl)
      clear HR BW c0 c1 f1
      go_wp2_with fail
      try rw [Exit.noGoto_ret]
      go_ret2
      exact ⟨.inl ⟨by rw [HD.out]; exact HNO.out, rfl, HH.out⟩, oth_below B BB.out⟩
end Go.Proofs.YtglkndoghnblcaaGreatDoor
namespace Go.Proofs.YtglkndoghnblcaaGreatDoor
open Go.ChangeShapes Go.WideShapes Go.ChangeAt Go.RowKit
set_option linter.unusedVariables false
set_option linter.unusedSimpArgs false
/-- What a payload gives up with. -/
def badP : List PanicEntry := [{ v := .iface 172 (.agg #[]), recovered := false }]
theorem must_u64_ok (v : Value) (w : World) : Calls Tryz.prog 111 #[v, .int .i64 0] w fun e w' => e = .returned v ∧ w = w' := by
  go_enter Tryz.func111, Tryz.ntmps111
  go_wp2
  go_ret
  exact ⟨rfl, rfl⟩
theorem must_u64_no (v : Value) (x : Int) (hx : ¬ x = 0) (w : World) : Calls Tryz.prog 111 #[v, .int .i64 x] w fun e w' => e = .panicked badP ∧ w = w' := by
  have h1 : (x != 0) = true := by simp [hx]
  have h2 : (x == 0) = false := by simp [hx]
  go_enter Tryz.func111, Tryz.ntmps111
  go_wp2
  first | exact ⟨rfl, rfl, rfl⟩ | exact ⟨rfl, rfl⟩ | simp [bodyPost, badP]
theorem must_bytes_ok (v : Value) (w : World) : Calls Tryz.prog 113 #[v, .int .i64 0] w fun e w' => e = .returned v ∧ w = w' := by
  go_enter Tryz.func113, Tryz.ntmps113
  go_wp2
  go_ret
  exact ⟨rfl, rfl⟩
theorem must_bytes_no (v : Value) (x : Int) (hx : ¬ x = 0) (w : World) : Calls Tryz.prog 113 #[v, .int .i64 x] w fun e w' => e = .panicked badP ∧ w = w' := by
  have h1 : (x != 0) = true := by simp [hx]
  have h2 : (x == 0) = false := by simp [hx]
  go_enter Tryz.func113, Tryz.ntmps113
  go_wp2
  first | exact ⟨rfl, rfl, rfl⟩ | exact ⟨rfl, rfl⟩ | simp [bodyPost, badP]
theorem must_errno_ok (v : Value) (w : World) : Calls Tryz.prog 105 #[v, .int .i64 0] w fun e w' => e = .returned v ∧ w = w' := by
  go_enter Tryz.func105, Tryz.ntmps105
  go_wp2
  go_ret
  exact ⟨rfl, rfl⟩
theorem must_errno_no (v : Value) (x : Int) (hx : ¬ x = 0) (w : World) : Calls Tryz.prog 105 #[v, .int .i64 x] w fun e w' => e = .panicked badP ∧ w = w' := by
  have h1 : (x != 0) = true := by simp [hx]
  have h2 : (x == 0) = false := by simp [hx]
  go_enter Tryz.func105, Tryz.ntmps105
  go_wp2
  first | exact ⟨rfl, rfl, rfl⟩ | exact ⟨rfl, rfl⟩ | simp [bodyPost, badP]
theorem must_parts_ok (v : Value) (w : World) : Calls Tryz.prog 115 #[v, .int .i64 0] w fun e w' => e = .returned v ∧ w = w' := by
  go_enter Tryz.func115, Tryz.ntmps115
  go_wp2
  go_ret
  exact ⟨rfl, rfl⟩
theorem must_parts_no (v : Value) (x : Int) (hx : ¬ x = 0) (w : World) : Calls Tryz.prog 115 #[v, .int .i64 x] w fun e w' => e = .panicked badP ∧ w = w' := by
  have h1 : (x != 0) = true := by simp [hx]
  have h2 : (x == 0) = false := by simp [hx]
  go_enter Tryz.func115, Tryz.ntmps115
  go_wp2
  first | exact ⟨rfl, rfl, rfl⟩ | exact ⟨rfl, rfl⟩ | simp [bodyPost, badP]
theorem must_writes_ok (v : Value) (w : World) : Calls Tryz.prog 140 #[v, .int .i64 0] w fun e w' => e = .returned v ∧ w = w' := by
  go_enter Tryz.func140, Tryz.ntmps140
  go_wp2
  go_ret
  exact ⟨rfl, rfl⟩
theorem must_writes_no (v : Value) (x : Int) (hx : ¬ x = 0) (w : World) : Calls Tryz.prog 140 #[v, .int .i64 x] w fun e w' => e = .panicked badP ∧ w = w' := by
  have h1 : (x != 0) = true := by simp [hx]
  have h2 : (x == 0) = false := by simp [hx]
  go_enter Tryz.func140, Tryz.ntmps140
  go_wp2
  first | exact ⟨rfl, rfl, rfl⟩ | exact ⟨rfl, rfl⟩ | simp [bodyPost, badP]
theorem must_bool_ok (v : Value) (w : World) : Calls Tryz.prog 143 #[v, .int .i64 0] w fun e w' => e = .returned v ∧ w = w' := by
  go_enter Tryz.func143, Tryz.ntmps143
  go_wp2
  go_ret
  exact ⟨rfl, rfl⟩
theorem must_bool_no (v : Value) (x : Int) (hx : ¬ x = 0) (w : World) : Calls Tryz.prog 143 #[v, .int .i64 x] w fun e w' => e = .panicked badP ∧ w = w' := by
  have h1 : (x != 0) = true := by simp [hx]
  have h2 : (x == 0) = false := by simp [hx]
  go_enter Tryz.func143, Tryz.ntmps143
  go_wp2
  first | exact ⟨rfl, rfl, rfl⟩ | exact ⟨rfl, rfl⟩ | simp [bodyPost, badP]
theorem must_nums_ok (v : Value) (w : World) : Calls Tryz.prog 150 #[v, .int .i64 0] w fun e w' => e = .returned v ∧ w = w' := by
  go_enter Tryz.func150, Tryz.ntmps150
  go_wp2
  go_ret
  exact ⟨rfl, rfl⟩
theorem must_nums_no (v : Value) (x : Int) (hx : ¬ x = 0) (w : World) : Calls Tryz.prog 150 #[v, .int .i64 x] w fun e w' => e = .panicked badP ∧ w = w' := by
  have h1 : (x != 0) = true := by simp [hx]
  have h2 : (x == 0) = false := by simp [hx]
  go_enter Tryz.func150, Tryz.ntmps150
  go_wp2
  first | exact ⟨rfl, rfl, rfl⟩ | exact ⟨rfl, rfl⟩ | simp [bodyPost, badP]
theorem must_row_ok (v : Value) (w : World) : Calls Tryz.prog 153 #[v, .int .i64 0] w fun e w' => e = .returned v ∧ w = w' := by
  go_enter Tryz.func153, Tryz.ntmps153
  go_wp2
  go_ret
  exact ⟨rfl, rfl⟩
theorem must_row_no (v : Value) (x : Int) (hx : ¬ x = 0) (w : World) : Calls Tryz.prog 153 #[v, .int .i64 x] w fun e w' => e = .panicked badP ∧ w = w' := by
  have h1 : (x != 0) = true := by simp [hx]
  have h2 : (x == 0) = false := by simp [hx]
  go_enter Tryz.func153, Tryz.ntmps153
  go_wp2
  first | exact ⟨rfl, rfl, rfl⟩ | exact ⟨rfl, rfl⟩ | simp [bodyPost, badP]
/-- A reader, of which so many bytes are left. -/
def RdS (W : World) (B : Nat) (R : List Int) : Prop := ∃ ad cap n L p, Rdr W B ad cap n L p ∧ L.drop p = R ∧ n ≤ 1000000 ∧ Byt L
theorem RdS.below {W W' : World} {B : Nat} {R : List Int} (h : RdS W B R) (b : Below W.heap.size W W') : RdS W' B R := by
  obtain ⟨ad, cap, n, L, p, h1, h2, h3, h4⟩ := h
  exact ⟨ad, cap, n, L, p, h1.below b, h2, h3, h4⟩
theorem RdS.byt {W : World} {B : Nat} {R : List Int} (h : RdS W B R) : Byt R := by
  obtain ⟨ad, cap, n, L, p, h1, rfl, h3, h4⟩ := h
  exact h4.drop p
theorem RdS.lt {W : World} {B : Nat} {R : List Int} (h : RdS W B R) : B < W.heap.size := by
  obtain ⟨ad, cap, n, L, p, h1, h2, h3, h4⟩ := h
  exact h1.lt
/-- A call that reads: what it tells, or it gives up. -/
def GetR {α : Type} (W : World) (B : Nat) (o : Option (α × List Int)) (V : α → World → Value → Prop) (r : Ending) (w' : World) : Prop :=
  ((o = none ∧ r = .panicked badP) ∨ ∃ x R' v, o = some (x, R') ∧ r = .returned v ∧ V x w' v ∧ RdS w' B R') ∧ W.grownBy w' (some B)
set_option maxRecDepth 100000 in
set_option maxHeartbeats 4000000 in
/-- upTo (98). -/
theorem upto_law {W : World} {B : Nat} {R : List Int} (h : RdS W B R) (most : Nat) (hm : most < 9223372036854775808) :
    Calls Tryz.prog 65 #[.pointer (some ⟨B, 0, none⟩), .int .i64 (most : Int)] W (GetR W B (upP most R) (fun x _ v => v = .int .i64 (x : Int))) := by
  obtain ⟨ad, cap, n, L, p, h1, h2, h3, h4⟩ := h
  have HN := Lib.hid (number_law h1 h3 h4)
  have HR := Lib.hid h2
  have HB := Lib.hid (And.intro h3 h4)
  have hw : IntKind.u64.wrap (most : Int) = (most : Int) := by rw [IntKind.wrap_u64]; omega
  clear h1 h2 h3 h4
  go_enter Tryz.func65, Tryz.ntmps65
  go_wp2_with fail
  refine HN.out.mono ?_
  rintro r w1 ⟨⟨e1, rfl, hr⟩ | ⟨v, j, e1, hv, hj, rfl, hr⟩, hg⟩
  · have HX := Lib.hid (show upP most R = none by unfold upP; rw [← HR.out, e1])
    have HG := Lib.hid hg
    clear e1 hr hg
    go_wp2_with fail
    refine (must_u64_no _ 4 (by decide) _).mono ?_
    rintro r w' ⟨rfl, rfl⟩
    go_wp2_with fail
    first | exact ⟨rfl, .inl ⟨HX.out, rfl⟩, HG.out⟩ | exact ⟨.inl ⟨HX.out, rfl⟩, HG.out⟩
  · have HG := Lib.hid (And.intro hg hr)
    have HE := Lib.hid e1
    clear e1 hg hr
    have hwv : v ≤ most → IntKind.i64.wrap (v : Int) = (v : Int) := fun h => by rw [IntKind.wrap_i64] <;> omega
    go_wp2_with fail
    refine (must_u64_ok _ _).mono ?_
    rintro r w' ⟨rfl, rfl⟩
    by_cases hle : v ≤ most
    · have d1 : ¬ (most : Int) < (v : Int) := by omega
      have hwv' := hwv hle
      have HX := Lib.hid (show upP most R = some (v, L.drop (p + j)) by unfold upP; rw [← HR.out, HE.out]; simp only [hle, if_true, List.drop_drop])
      clear hwv hle
      go_wp2_with fail
      go_ret
      exact ⟨.inr ⟨v, _, _, HX.out, rfl, rfl, ad, cap, n, L, p + j, HG.out.2, rfl, HB.out.1, HB.out.2⟩, HG.out.1⟩
    · have d1 : (most : Int) < (v : Int) := by omega
      have HX := Lib.hid (show upP most R = none by unfold upP; rw [← HR.out, HE.out]; simp only [hle, if_false])
      clear hwv hle
      go_wp2_with fail
      first | exact ⟨rfl, .inl ⟨HX.out, rfl⟩, HG.out.1⟩ | exact ⟨.inl ⟨HX.out, rfl⟩, HG.out.1⟩
end Go.Proofs.YtglkndoghnblcaaGreatDoor
namespace Go.Proofs.YtglkndoghnblcaaGreatDoor
open Go.ChangeShapes Go.WideShapes Go.ChangeAt Go.RowKit
set_option linter.unusedVariables false
set_option linter.unusedSimpArgs false
theorem RdR.drew {W : World} {a : Option Addr} {R : List P1} (h : RdR W a R) : RdR W.drew a R := fun k p hp => by
  obtain ⟨b, off, e, h1, h2⟩ := h k p hp
  exact ⟨b, off, e, h1, h2.drew⟩
theorem Rdr.put {W : World} {B : Nat} {ad : Option Addr} {cap n : Nat} {L : List Int} {p : Nat} (h : Rdr W B ad cap n L p) (q : Nat) (hq : q ≤ n) : Rdr (((W.setCell ⟨B, 0, none⟩ (.slice ad n cap)).setCell ⟨B, 1, none⟩ (.int .i64 (q : Int))).setCell ⟨B, 2, none⟩ (.bool true)) B ad cap n L q := by
  have k0 : (W.setCell ⟨B, 0, none⟩ (.slice ad n cap)).cell? ⟨B, 0, none⟩ = some (.slice ad n cap) := World.cell?_setCell_same W _ _ h.c0
  have k1 : (W.setCell ⟨B, 0, none⟩ (.slice ad n cap)).cell? ⟨B, 1, none⟩ = some (.int .i64 (p : Int)) := by
    rw [World.cell?_setCell_other W ⟨B, 0, none⟩ ⟨B, 1, none⟩ _ (fun q => by simp at q)]; exact h.c1
  have k2 : (W.setCell ⟨B, 0, none⟩ (.slice ad n cap)).cell? ⟨B, 2, none⟩ = some (.bool true) := by
    rw [World.cell?_setCell_other W ⟨B, 0, none⟩ ⟨B, 2, none⟩ _ (fun q => by simp at q)]; exact h.c2
  generalize hW1 : W.setCell ⟨B, 0, none⟩ (.slice ad n cap) = W1 at k0 k1 k2 ⊢
  have m0 : (W1.setCell ⟨B, 1, none⟩ (.int .i64 (q : Int))).cell? ⟨B, 0, none⟩ = some (.slice ad n cap) := by
    rw [World.cell?_setCell_other W1 ⟨B, 1, none⟩ ⟨B, 0, none⟩ _ (fun q => by simp at q)]; exact k0
  have m1 : (W1.setCell ⟨B, 1, none⟩ (.int .i64 (q : Int))).cell? ⟨B, 1, none⟩ = some (.int .i64 (q : Int)) := World.cell?_setCell_same W1 _ _ k1
  have m2 : (W1.setCell ⟨B, 1, none⟩ (.int .i64 (q : Int))).cell? ⟨B, 2, none⟩ = some (.bool true) := by
    rw [World.cell?_setCell_other W1 ⟨B, 1, none⟩ ⟨B, 2, none⟩ _ (fun q => by simp at q)]; exact k2
  refine ⟨h.len, ?_, ?_, World.cell?_setCell_same _ _ _ m2, ?_, ?_, ?_, fun W2 h2 => ?_, hq, h.apart⟩
  · rw [World.cell?_setCell_other _ ⟨B, 2, none⟩ ⟨B, 0, none⟩ _ (fun q => by simp at q)]; exact m0
  · rw [World.cell?_setCell_other _ ⟨B, 2, none⟩ ⟨B, 1, none⟩ _ (fun q => by simp at q)]; exact m1
  · rw [World.frozen?_setCell, World.frozen?_setCell, ← hW1, World.frozen?_setCell]; exact h.f0
  · rw [World.frozen?_setCell, World.frozen?_setCell, ← hW1, World.frozen?_setCell]; exact h.f1
  · rw [World.frozen?_setCell, World.frozen?_setCell, ← hW1, World.frozen?_setCell]; exact h.f2
  · refine h.ls W2 fun k b' off e => ?_
    have hb := h.apart b' off e
    rw [h2 k b' off e, World.cell?_setCell_other _ ⟨B, 2, none⟩ ⟨b', off + k, none⟩ _ (fun q => by simp at q <;> omega), World.cell?_setCell_other _ ⟨B, 1, none⟩ ⟨b', off + k, none⟩ _ (fun q => by simp at q <;> omega), ← hW1, World.cell?_setCell_other _ ⟨B, 0, none⟩ ⟨b', off + k, none⟩ _ (fun q => by simp at q <;> omega)]
def Er (e : Int) : Prop := e = 3 ∨ e = 4
theorem Er.ne {e : Int} (h : Er e) : (e == 0) = false ∧ (e != 0) = true ∧ ¬ e = 0 := by
  rcases h with rfl | rfl <;> decide
theorem upP_some {most v j : Nat} {D : List Int} (h : numR 0 0 D = some (v, j)) (hv : v ≤ most) : upP most D = some (v, D.drop j) := by
  unfold upP; rw [h]; simp only [hv, if_true]
theorem upP_none1 {most : Nat} {D : List Int} (h : numR 0 0 D = none) : upP most D = none := by unfold upP; rw [h]
theorem upP_none2 {most v j : Nat} {D : List Int} (h : numR 0 0 D = some (v, j)) (hv : ¬ v ≤ most) : upP most D = none := by unfold upP; rw [h]; simp only [hv, if_false]
def CntR (W : World) (B : Nat) (ad : Option Addr) (cap n : Nat) (L : List Int) (p most : Nat) (r : Ending) (w' : World) : Prop :=
  ((upP most (L.drop p) = none ∧ (∃ e x : Int, Er e ∧ r = .returned (.tuple #[.int .u64 x, .int .i64 e])) ∧ ∃ q, Rdr w' B ad cap n L q) ∨
    ∃ v q : Nat, upP most (L.drop p) = some (v, L.drop q) ∧ v ≤ most ∧ q ≤ n ∧ r = .returned (.tuple #[.int .u64 (v : Int), .int .i64 0]) ∧ Rdr w' B ad cap n L q) ∧ W.grownBy w' (some B)
set_option maxRecDepth 100000 in
set_option maxHeartbeats 4000000 in
/-- count (169). -/
theorem count_law {W : World} {B : Nat} {ad : Option Addr} {cap n : Nat} {L : List Int} {p : Nat} (h : Rdr W B ad cap n L p) (hn : n ≤ 1000000) (hB : Byt L) (most : Nat) (hm : most ≤ 1000000) :
    Calls Tryz.prog 145 #[.pointer (some ⟨B, 0, none⟩), .int .i64 (most : Int)] W (CntR W B ad cap n L p most) := by
  have HN := Lib.hid (number_law h hn hB)
  have hw : IntKind.u64.wrap (most : Int) = (most : Int) := by rw [IntKind.wrap_u64]; omega
  have hm0 : ¬ (most : Int) < 0 := by omega
  clear h
  go_enter Tryz.func145, Tryz.ntmps145
  go_wp2_with fail
  refine HN.out.mono ?_
  rintro r w1 ⟨⟨e1, rfl, hr⟩ | ⟨v, j, e1, hv, hj, rfl, hr⟩, hg⟩
  · have HX := Lib.hid (upP_none1 (most := most) e1)
    have HG := Lib.hid (And.intro hg hr)
    clear e1 hr hg
    go_wp2_with fail
    go_ret2
    exact ⟨.inl ⟨HX.out, ⟨4, 0, .inr rfl, rfl⟩, p, HG.out.2⟩, HG.out.1⟩
  · have HG := Lib.hid (And.intro hg (And.intro hr hj))
    by_cases hle : v ≤ most
    · have d1 : ¬ (most : Int) < (v : Int) := by omega
      have HX := Lib.hid (upP_some e1 hle)
      have HLE := Lib.hid hle
      clear e1 hr hg hj hle
      go_wp2_with fail
      go_ret2
      exact ⟨.inr ⟨v, p + j, by rw [HX.out, List.drop_drop], HLE.out, HG.out.2.2, rfl, HG.out.2.1⟩, HG.out.1⟩
    · have d1 : (most : Int) < (v : Int) := by omega
      have HX := Lib.hid (upP_none2 e1 hle)
      clear e1 hr hg hj hle
      go_wp2_with fail
      go_ret2
      exact ⟨.inl ⟨HX.out, ⟨3, 0, .inl rfl, rfl⟩, _, HG.out.2.1⟩, HG.out.1⟩
/-- What the reader's Bytes answers. -/
def BytR (W : World) (B : Nat) (R : List Int) (most : Nat) (r : Ending) (w' : World) : Prop :=
  ((bytesP most R = none ∧ (∃ e : Int, Er e ∧ r = .returned (.tuple #[.slice none 0 0, .int .i64 e])) ∧ RdS w' B R) ∨
    ∃ b R' a c, bytesP most R = some (b, R') ∧ r = .returned (.tuple #[.slice a b.length c, .int .i64 0]) ∧ w'.ownsRow W.heap.size 5 1 (.slice a b.length c) b.length (iv .u8 b) ∧ RdS w' B R') ∧ W.grownBy w' (some B)
set_option maxRecDepth 100000 in
set_option maxHeartbeats 4000000 in
/-- The reader's Bytes (139). -/
theorem rbytes_law {W : World} {B : Nat} {R : List Int} (hR : RdS W B R) (most : Nat) (hm : most ≤ 1000000) :
    Calls Tryz.prog 114 #[.pointer (some ⟨B, 0, none⟩), .int .i64 (most : Int)] W (BytR W B R most) := by
  obtain ⟨ad, cap, n, L, p, h, hd, hn, hB⟩ := hR
  have c0 := h.c0
  have c1 := h.c1
  have c2 := h.c2
  have H := Lib.hid h
  have hbl := h.lt
  have HLE := Lib.hid h.le
  have HN := Lib.hid (And.intro hn (And.intro hB hd))
  have HRD := Lib.hid (fun W' q (hr : Rdr W' B ad cap n L q) => (⟨ad, cap, n, L, q, hr, rfl, hn, hB⟩ : RdS W' B (L.drop q)))
  have hni : (n : Int) ≤ 1000000 := by omega
  have hpi : (p : Int) ≤ (n : Int) := by have := h.le; omega
  clear h hB hd
  go_enter Tryz.func114, Tryz.ntmps114
  go_wp2_with fail
  refine (none_law H.out).mono ?_; rintro e w' ⟨rfl, rfl⟩
  go_wp2_with fail
  have B0 : Below W.heap.size W (W.alloc (.cells #[.slice ad n cap, .int .i64 (p : Int), .bool true] 196)) := (Below.refl _ _).alloc (Nat.le_refl _) _
  have h1 := H.out.below B0
  have k0 : (W.alloc (.cells #[.slice ad n cap, .int .i64 (p : Int), .bool true] 196)).cell? ⟨W.heap.size, 0, none⟩ = some (.slice ad n cap) := by rw [cell_new]; rfl
  have k1 : (W.alloc (.cells #[.slice ad n cap, .int .i64 (p : Int), .bool true] 196)).cell? ⟨W.heap.size, 1, none⟩ = some (.int .i64 (p : Int)) := by rw [cell_new]; rfl
  have k2 : (W.alloc (.cells #[.slice ad n cap, .int .i64 (p : Int), .bool true] 196)).cell? ⟨W.heap.size, 2, none⟩ = some (.bool true) := by rw [cell_new]; rfl
  have hsz : (W.alloc (.cells #[.slice ad n cap, .int .i64 (p : Int), .bool true] 196)).heap.size = W.heap.size + 1 := by simp
  clear c0 c1 c2
  generalize W.alloc (.cells #[.slice ad n cap, .int .i64 (p : Int), .bool true] 196) = W1 at B0 h1 k0 k1 k2 hsz ⊢
  have HH1 := Lib.hid h1
  have HB0 := Lib.hid B0
  have K := Lib.hid (show ∀ w2, W1.grownBy w2 (some B) → w2.cell? ⟨W.heap.size, 0, none⟩ = some (.slice ad n cap) ∧ w2.cell? ⟨W.heap.size, 1, none⟩ = some (.int .i64 (p : Int)) ∧ w2.cell? ⟨W.heap.size, 2, none⟩ = some (.bool true) ∧ W.grownBy w2 (some B) from fun w2 g => ⟨g.cell k0 (by simp; omega), g.cell k1 (by simp; omega), g.cell k2 (by simp; omega), oth_trans (oth_below B B0) g⟩)
  clear hsz h1 B0 k0 k1 k2
  refine (count_law HH1.out HN.out.1 HN.out.2.1 most hm).mono ?_
  rintro r w2 ⟨⟨hno, ⟨e, x, he, rfl⟩, q, h2⟩ | ⟨v, q, hup, hvm, hqn, rfl, h2⟩, g2⟩
  · obtain ⟨k0, k1, k2, G2⟩ := K.out w2 g2
    obtain ⟨z1, z2, z3⟩ := he.ne
    have HER := Lib.hid he
    have HNO := Lib.hid (show bytesP most R = none by unfold bytesP; rw [← HN.out.2.2, hno])
    have e0 := h2.c0
    have e1 := h2.c1
    have e2 := h2.c2
    have f0 := h2.f0
    have f1 := h2.f1
    have f2 := h2.f2
    have HG2 := Lib.hid G2
    have HP := Lib.hid (h2.put p HLE.out)
    clear h2 g2 G2 he hno
    go_wp2_with fail
    go_ret2
    exact ⟨.inl ⟨HNO.out, ⟨e, HER.out, rfl⟩, by have := HRD.out _ _ HP.out; rwa [HN.out.2.2] at this⟩, oth_trans HG2.out (oth_trans (oth_set _ _ _ _) (oth_trans (oth_set _ _ _ _) (oth_set _ _ _ _)))⟩
  · obtain ⟨m, hmx⟩ : ∃ m, n - q = m := ⟨_, rfl⟩
    have LF := left_law h2 HN.out.1
    rw [hmx] at LF
    have HLF := Lib.hid LF
    have HUP := Lib.hid (And.intro hup (And.intro hqn hmx))
    have hmi : (m : Int) ≤ 1000000 := by omega
    have hvi : (v : Int) ≤ 1000000 := by omega
    have hqi : (q : Int) ≤ (n : Int) := by omega
    have hwm : IntKind.u64.wrap (m : Int) = (m : Int) := by rw [IntKind.wrap_u64]; omega
    have H2 := Lib.hid h2
    have HG := Lib.hid g2
    clear h2 g2 LF hmx hup hqn
    by_cases hsh : m < v
    · have hcm : (m : Int) < (v : Int) := by omega
      have HNO := Lib.hid (show bytesP most R = none by
        unfold bytesP
        rw [← HN.out.2.2, HUP.out.1]
        simp only
        rw [if_neg]
        rw [List.length_drop, H2.out.len]
        have := HUP.out.2.2
        omega)
      clear hsh
      go_wp2_with fail
      refine HLF.out.mono ?_; rintro r w3 ⟨rfl, B3⟩
      have h3 := H2.out.below B3
      obtain ⟨k0, k1, k2, G2⟩ := K.out w3 (oth_trans HG.out (oth_below B B3))
      have e0 := h3.c0
      have e1 := h3.c1
      have e2 := h3.c2
      have f0 := h3.f0
      have f1 := h3.f1
      have f2 := h3.f2
      have HG2 := Lib.hid G2
      have HP := Lib.hid (h3.put p HLE.out)
      clear h3 G2 B3
      go_wp2_with fail
      go_ret2
      exact ⟨.inl ⟨HNO.out, ⟨4, .inr rfl, rfl⟩, by have := HRD.out _ _ HP.out; rwa [HN.out.2.2] at this⟩, oth_trans HG2.out (oth_trans (oth_set _ _ _ _) (oth_trans (oth_set _ _ _ _) (oth_set _ _ _ _)))⟩
    · have hcm : ¬ (m : Int) < (v : Int) := by omega
      have hfit : q + v ≤ n := by have := HUP.out.2.2; have := HUP.out.2.1; omega
      obtain ⟨f, hf⟩ : ∃ f, (L.drop q).take v = f := ⟨_, rfl⟩
      have hfl0 : f.length = v := by rw [← hf, List.length_take, List.length_drop, H2.out.len]; omega
      have HFL := Lib.hid hfl0
      have HYES := Lib.hid (show bytesP most R = some (f, L.drop (q + v)) by
        unfold bytesP
        rw [← HN.out.2.2, HUP.out.1]
        simp only
        rw [if_pos (by rw [List.length_drop, H2.out.len]; omega), hf, List.drop_drop])
      have HFIT := Lib.hid hfit
      have HF0 := Lib.hid hf
      clear hsh hf hfl0
      go_wp2_with fail
      refine HLF.out.mono ?_; rintro r w3 ⟨rfl, B3⟩
      have h3 := H2.out.below B3
      have HG3 := Lib.hid (oth_trans (oth_below B HB0.out) (oth_trans HG.out (oth_below B B3)))
      obtain ⟨a', c', s', l'⟩ := h3.here.mid eltB n q (q + v) h3.len (by omega) hfit
      rw [show q + v - q = v by omega] at s' l'
      rw [HF0.out] at l'
      have hw2 : (((q + v : Nat)) : Int) = (q : Int) + (v : Int) := by omega
      have d0 := h3.c0
      have d1 := h3.c1
      rw [hw2] at s'
      have hadd : IntKind.i64.wrap ((q : Int) + (v : Int)) = (q : Int) + (v : Int) := by rw [IntKind.wrap_i64]; omega
      have hcw : IntKind.i64.wrap (v : Int) = (v : Int) := by rw [IntKind.wrap_i64]; omega
      have HFF := Lib.hid (show ∀ W', Below w3.heap.size w3 W' → Ls .u8 W' a' c' f from fun W' b => l'.below b)
      have H3 := Lib.hid h3
      clear B3 h3 l' hw2 K
      go_wp2_with fail
      have hmx : Tryz.prog.follows .mixedOrders = true := by kernel_rfl
      have HQ := Lib.hid (show ∀ V, Below w3.heap.size w3 V → V.cell? ⟨B, 0, none⟩ = some (.slice ad n cap) ∧ V.cell? ⟨B, 1, none⟩ = some (.int .i64 (q : Int)) ∧ Below w3.heap.size w3 V from fun V b => ⟨(b.cell (p := ⟨B, 0, none⟩) H3.out.lt).trans d0, (b.cell (p := ⟨B, 1, none⟩) H3.out.lt).trans d1, b⟩)
      have hfl : flat [⟨a', c', f⟩] = f := by simp [flat]
      have hj := join_own (some ⟨w3.heap.size, 0, none⟩) [⟨a', c', f⟩] 1 1 rfl (by omega) (by rw [hfl, HFL.out]; omega) _ (RdR.drew (rdR_new w3 [⟨a', c', f⟩] #[.slice a' v c'] 54 (0, 0) (by simp only [List.map_cons, List.map_nil, P1.v, HFL.out]) (by
        intro q hq
        simp only [List.mem_cons, List.not_mem_nil, or_false] at hq
        subst hq
        exact HFF.out _ (Below.refl _ _))))
      rw [hfl, HFL.out] at hj
      have HJ := Lib.hid hj
      clear hj hfl
      go_region_held3 (fun V => V.cell? ⟨B, 0, none⟩ = some (.slice ad n cap) ∧ V.cell? ⟨B, 1, none⟩ = some (.int .i64 (q : Int)) ∧ Below w3.heap.size w3 V)
        (first | (exact HQ.out _ (Below.refl _ _).drew) | (exact HQ.out _ (((Below.refl _ _).alloc (Nat.le_refl _) _).drew)) | (exact HQ.out _ (step_below (((Below.refl _ _).alloc (Nat.le_refl _) _).drew) B5)))
        (first | (go_at_call 46; refine HJ.out.mono ?_; rintro e w5 ⟨a5, c5, rfl, l5, fr5, B5⟩))
      have FR := Lib.hid fr5
      clear fr5
      have B6 : Below w3.heap.size w3 w5 := by go_split_ands; assumption
      have h5 := H3.out.below B6
      have e0 := h5.c0
      have e1 := h5.c1
      have g1 := h5.f1
      have H5 := Lib.hid h5
      have HB6 := Lib.hid B6
      clear h5 B6 d0 d1 l5 B5 HQ
      go_wp2_with fail
      go_ret2
      have hsz : W.heap.size ≤ w3.heap.size := HG3.out.size
      have hmv := H5.out.move (q + v) HFIT.out
      have hbz : W.heap.size ≤ (w3.alloc (.cells #[.slice a' v c'] 54)).drew.heap.size := by simp; omega
      have l6 := own_oth (B := B) (own_base hbz FR.out) hbl (oth_set w5 B 1 (.int .i64 ((q + v : Nat) : Int)))
      rw [show ((q + v : Nat) : Int) = (q : Int) + (v : Int) by omega] at hmv l6
      refine ⟨.inr ⟨f, _, a5, c5, HYES.out, ?_, ?_, HRD.out _ _ hmv⟩, oth_trans HG3.out (oth_trans (oth_below B HB6.out) (oth_set _ _ _ _))⟩
      · rw [HFL.out]; rfl
      · rw [HFL.out]; exact l6
end Go.Proofs.YtglkndoghnblcaaGreatDoor
namespace Go.Proofs.YtglkndoghnblcaaGreatDoor
open Go.ChangeShapes Go.WideShapes Go.ChangeAt Go.RowKit
set_option linter.unusedVariables false
set_option linter.unusedSimpArgs false
theorem rdr_box (w : World) (a : Option Addr) (cap n : Nat) (L : List Int) (hn : L.length = n) (hl : Ls .u8 w a cap L) (ha : ∀ b off, a = some ⟨b, off, none⟩ → b < w.heap.size) : Rdr (w.alloc (.cells #[.slice a n cap, .int .i64 0, .bool true] 196)) w.heap.size a cap n L 0 := by
  refine ⟨hn, by rw [cell_new]; rfl, by rw [cell_new]; rfl, by rw [cell_new]; rfl, by simp [go_sem], by simp [go_sem], by simp [go_sem], fun W2 h2 => ?_, Nat.zero_le _, ha⟩
  have hl2 := hl.below ((Below.refl _ w).alloc (Nat.le_refl _) (.cells #[.slice a n cap, .int .i64 0, .bool true] 196))
  refine ⟨fun k hk => ?_, hl.nl, hl.le⟩
  obtain ⟨b, off, e, hc⟩ := hl2.rd k hk
  exact ⟨b, off, e, (h2 k b off e).trans hc⟩
set_option maxRecDepth 100000 in
set_option maxHeartbeats 1000000 in
/-- Open (119). -/
theorem open_law (a : Option Addr) (L : List Int) (n cap : Nat) (hL : L.length = n) (hn : n ≤ 1000000) (hB : Byt L) (w : World) (hA : Ls .u8 w a cap L) :
    Calls Tryz.prog 104 #[.slice a n cap] w fun r w' => ∃ B, r = .returned (.pointer (some ⟨B, 0, none⟩)) ∧ RdS w' B L ∧ w.heap.size ≤ B ∧ Below w.heap.size w w' := by
  have hfl : flat [⟨a, cap, L⟩] = L := by simp [flat]
  have hj := join_own (some ⟨w.heap.size, 0, none⟩) [⟨a, cap, L⟩] 1 1 rfl (by omega) (by rw [hfl, hL]; omega) _ (rdR_new w [⟨a, cap, L⟩] #[.slice a n cap] 54 (0, 0) (by simp only [List.map_cons, List.map_nil, P1.v, hL]) (by
    intro q hq
    simp only [List.mem_cons, List.not_mem_nil, or_false] at hq
    subst hq
    exact hA))
  rw [hfl, hL] at hj
  have HJ := Lib.hid hj
  have HL := Lib.hid hL
  have HBN := Lib.hid (And.intro hn hB)
  clear hj hfl hA hL hB hn
  go_enter Tryz.func104, Tryz.ntmps104
  go_wp2_with fail
  refine HJ.out.mono ?_; rintro e w3 ⟨a3, c3, rfl, l3, o3, B3⟩
  have BB := Lib.hid (step_below ((Below.refl w.heap.size w).alloc (Nat.le_refl _) (.cells #[.slice a n cap] 54)) B3)
  have HR := Lib.hid (rdr_box w3 a3 c3 n L HL.out l3 (fun b off e => by subst e; exact (o3.lt b rfl).2))
  clear l3 o3 B3
  go_wp2_with fail
  go_ret
  exact ⟨w3.heap.size, rfl, ⟨a3, c3, n, L, 0, HR.out, rfl, HBN.out.1, HBN.out.2⟩, BB.out.size, BB.out.alloc BB.out.size _⟩
/-- End (121): is something left? -/
theorem end_law {W : World} {B : Nat} {R : List Int} (h : RdS W B R) :
    Calls Tryz.prog 106 #[.pointer (some ⟨B, 0, none⟩)] W fun r w' => r = .returned (.int .i64 (if R = [] then 0 else 4)) ∧ Below W.heap.size W w' := by
  obtain ⟨ad, cap, n, L, p, h1, h2, h3, h4⟩ := h
  have H := Lib.hid h1
  have hl := left_law h1 h3
  obtain ⟨m, hm⟩ : ∃ m, n - p = m := ⟨_, rfl⟩
  rw [hm] at hl
  have HLL := Lib.hid hl
  have hR : R.length = m := by rw [← h2, List.length_drop, h1.len, hm]
  by_cases hz : R = []
  · rw [if_pos hz]
    have : m = 0 := by rw [← hR, hz]; rfl
    subst this
    clear hz hR h1 h2 h3 h4 hm hl
    go_enter Tryz.func106, Tryz.ntmps106
    go_wp2_with fail
    refine (none_law H.out).mono ?_; rintro e w' ⟨rfl, rfl⟩
    go_wp2_with fail
    refine HLL.out.mono ?_; rintro e w2 ⟨rfl, B2⟩
    go_wp2_with fail
    go_ret
    exact ⟨rfl, B2⟩
  · rw [if_neg hz]
    have hp : 0 < m := by rw [← hR]; exact List.length_pos_iff.2 hz
    have hpi : (0 : Int) < (m : Int) := by omega
    clear hz hR h1 h2 h3 h4 hm hl
    go_enter Tryz.func106, Tryz.ntmps106
    go_wp2_with fail
    refine (none_law H.out).mono ?_; rintro e w' ⟨rfl, rfl⟩
    go_wp2_with fail
    refine HLL.out.mono ?_; rintro e w2 ⟨rfl, B2⟩
    go_wp2_with fail
    go_ret
    exact ⟨rfl, B2⟩
/-- What the reader's Flag answers. -/
def FlgR (W : World) (B : Nat) (R : List Int) (r : Ending) (w' : World) : Prop :=
  ((flagP R = none ∧ r = .returned (.tuple #[.bool false, .int .i64 4]) ∧ RdS w' B R) ∨
    ∃ f R', flagP R = some (f, R') ∧ r = .returned (.tuple #[.bool f, .int .i64 0]) ∧ RdS w' B R') ∧ W.grownBy w' (some B)
set_option maxRecDepth 100000 in
set_option maxHeartbeats 4000000 in
/-- The reader's Flag (163). -/
theorem flag_law {W : World} {B : Nat} {R : List Int} (hR : RdS W B R) :
    Calls Tryz.prog 144 #[.pointer (some ⟨B, 0, none⟩)] W (FlgR W B R) := by
  have HRS := Lib.hid hR
  obtain ⟨ad, cap, n, L, p, h, hd, hn, hB⟩ := hR
  have H := Lib.hid h
  have hle := h.le
  have hlen := h.len
  have HN := Lib.hid (And.intro hn (And.intro hB hd))
  have HRD := Lib.hid (fun W' q (hr : Rdr W' B ad cap n L q) => (⟨ad, cap, n, L, q, hr, rfl, hn, hB⟩ : RdS W' B (L.drop q)))
  obtain ⟨m, hm⟩ : ∃ m, n - p = m := ⟨_, rfl⟩
  by_cases hz : p = n
  · have hm0 : m = 0 := by omega
    have HX := Lib.hid (show flagP R = none by rw [← hd, List.drop_of_length_le (by omega)]; rfl)
    have FQ := Lib.hid (show ∀ V, Below W.heap.size W V → V.cell? ⟨B, 0, none⟩ = some (.slice ad n cap) ∧ V.cell? ⟨B, 1, none⟩ = some (.int .i64 (p : Int)) from fun V b => ⟨(H.out.below b).c0, (H.out.below b).c1⟩)
    have e0 : ((n - p : Nat) : Int) = 0 := by omega
    clear hd hn hB h hle hlen hm hz hm0
    go_enter Tryz.func144, Tryz.ntmps144
    go_wp2_with fail
    refine (none_law H.out).mono ?_; rintro e w' ⟨rfl, rfl⟩
    go_upto_region 3 with (fail)
    · have K := FQ
      obtain ⟨l0, hl0⟩ : ∃ l0, ((n - p : Nat) : Int) = l0 := ⟨_, rfl⟩
      have LL := Lib.hid (fun V (b : Below W.heap.size W V) => left_law (H.out.below b) HN.out.1)
      rw [e0] at LL
      refine wp_region_held_drew (S := (fun X => Below W.heap.size W X)) (by kernel_rfl) ((Below.refl _ _).drew) (fun hHeld => ?_)
      refine tp 0 ?_ rfl (.inl ⟨by rfl, ?_⟩) ?_
      rotate_left
      · intro W hSw; go_simp; try with_reducible rfl
      refine a1 1 rfl (fun K hK => ?_)
      go_simp
      refine (LL.out _ hHeld).mono ?_; rintro e9 w3 ⟨rfl, hb3⟩
      go_wp2_with fail
      refine hK.out _ _ (step_below hHeld hb3) (fun hHeldn => ?_)
      clear hK K hHeld; have hHeld := hHeldn; clear hHeldn
      try simp only [Act.put, List.setIfInBounds_toArray, List.set_cons_zero, List.set_cons_succ]
      refine tp 2 ?_ rfl (.inl ⟨by rfl, ?_⟩) ?_
      rotate_left
      · intro W hSw; go_simp; try with_reducible rfl
      refine tp 3 ?_ rfl (.inl ⟨by rfl, ?_⟩) ?_
      rotate_left
      · intro W hSw; go_simp; try with_reducible rfl
      refine tn 4 rfl ?_
      refine tn 5 rfl ?_
      refine tn 6 rfl ?_
      refine tn 7 rfl ?_
      refine tn 8 rfl ?_
      refine tn 9 rfl ?_
      refine tn 10 rfl ?_
      refine tn 11 rfl ?_
      refine tn 12 rfl ?_
      refine tn 13 rfl ?_
      refine tn 14 rfl ?_
      refine tp 15 ?_ rfl (.inl ⟨by rfl, ?_⟩) ?_
      rotate_left
      · intro W hSw; go_simp; try with_reducible rfl
      refine wpAnyH_done (by kernel_rfl) ?_ _
      skip
      have HB := Lib.hid hHeld
      clear hHeld
      go_wp2_with fail
      go_ret2
      exact ⟨.inl ⟨HX.out, rfl, HRS.out.below HB.out⟩, oth_below B HB.out⟩
  · have hlt : p < n := by omega
    obtain ⟨b, off, ha, ck⟩ := h.here.get p (by omega)
    subst ha
    obtain ⟨b0, b1⟩ := hB.get p (by omega)
    obtain ⟨c, hc⟩ : ∃ c, L.getD p 0 = c := ⟨_, rfl⟩
    rw [hc] at ck b0 b1
    have hdd : R = c :: L.drop (p + 1) := by rw [← hd, drop_cons (by omega), hc]
    have HX := Lib.hid (show flagP R = if c ≤ 1 then some (decide (c = 1), L.drop (p + 1)) else none by rw [hdd]; rfl)
    have FQ := Lib.hid (show ∀ V, Below W.heap.size W V → V.cell? ⟨B, 0, none⟩ = some (.slice (some ⟨b, off, none⟩) n cap) ∧ V.cell? ⟨B, 1, none⟩ = some (.int .i64 (p : Int)) ∧ V.cell? ⟨b, off + p, none⟩ = some (.int .u8 c) from fun V bb => ⟨(H.out.below bb).c0, (H.out.below bb).c1, (bb.cell (cell_lt ck)).trans ck⟩)
    have hpi : (p : Int) < (n : Int) := by omega
    have hni : (n : Int) ≤ 1000000 := by omega
    have hmpos : (((n - p : Nat) : Int) == 0) = false := by simp; omega
    have hw1 : IntKind.i64.wrap ((p : Int) + 1) = ((p + 1 : Nat) : Int) := by rw [IntKind.wrap_i64] <;> omega
    have HM := Lib.hid (fun V (bb : Below W.heap.size W V) => (H.out.below bb).move (p + 1) (by omega))
    obtain ⟨l0, hl0⟩ : ∃ l0, ((n - p : Nat) : Int) = l0 := ⟨_, rfl⟩
    have LL := Lib.hid (fun V (b : Below W.heap.size W V) => left_law (H.out.below b) HN.out.1)
    rw [hl0] at LL hmpos
    by_cases hc1 : c ≤ 1
    · have d1 : ¬ (1 : Int) < c := by omega
      have HX1 := Lib.hid (show flagP R = some (decide (c = 1), L.drop (p + 1)) by rw [HX.out, if_pos hc1])
      have d2 : (c == 1) = decide (c = 1) := by by_cases e : c = 1 <;> simp [e]
      clear hd hn hB h hle hlen hm hz hc hdd HX ck hl0 hc1
      go_enter Tryz.func144, Tryz.ntmps144
      go_wp2_with fail
      refine (none_law H.out).mono ?_; rintro e w' ⟨rfl, rfl⟩
      go_upto_region 3 with (fail)
      refine wp_region_held_drew (S := (fun X => Below W.heap.size W X)) (by kernel_rfl) ((Below.refl _ _).drew) (fun hHeld => ?_)
      refine tp 0 ?_ rfl (.inl ⟨by rfl, ?_⟩) ?_
      rotate_left
      · intro W hSw; go_simp; try with_reducible rfl
      refine a1 1 rfl (fun K hK => ?_)
      go_simp
      refine (LL.out _ hHeld).mono ?_; rintro e9 w3 ⟨rfl, hb3⟩
      go_wp2_with fail
      refine hK.out _ _ (step_below hHeld hb3) (fun hHeldn => ?_)
      clear hK K hHeld; have hHeld := hHeldn; clear hHeldn
      try simp only [Act.put, List.setIfInBounds_toArray, List.set_cons_zero, List.set_cons_succ]
      refine tp 2 ?_ rfl (.inl ⟨by rfl, ?_⟩) ?_
      rotate_left
      · intro W hSw; go_simp; try with_reducible rfl
      refine tp 3 ?_ rfl (.inl ⟨by rfl, ?_⟩) ?_
      rotate_left
      · intro W hSw; go_simp; try with_reducible rfl
      refine tp 4 ?_ rfl (.inl ⟨by rfl, ?_⟩) ?_
      rotate_left
      · intro W hSw; go_simp; try with_reducible rfl
      refine tp 5 ?_ rfl (.inl ⟨by rfl, ?_⟩) ?_
      rotate_left
      · intro W hSw; go_simp; try with_reducible rfl
      refine tp 6 ?_ rfl (.inl ⟨by rfl, ?_⟩) ?_
      rotate_left
      · intro W hSw; go_simp; try with_reducible rfl
      refine tp 7 ?_ rfl (.inl ⟨by rfl, ?_⟩) ?_
      rotate_left
      · intro W hSw; obtain ⟨z0, z1, z2⟩ := FQ.out W hSw; go_simp; try with_reducible rfl
      refine tp 8 ?_ rfl (.inl ⟨by rfl, ?_⟩) ?_
      rotate_left
      · intro W hSw; go_simp; try with_reducible rfl
      refine tp 9 ?_ rfl (.inl ⟨by rfl, ?_⟩) ?_
      rotate_left
      · intro W hSw; go_simp; try with_reducible rfl
      refine tp 10 ?_ rfl (.inl ⟨by rfl, ?_⟩) ?_
      rotate_left
      · intro W hSw; go_simp; try with_reducible rfl
      refine tp 11 ?_ rfl (.inl ⟨by rfl, ?_⟩) ?_
      rotate_left
      · intro W hSw; obtain ⟨z0, z1, z2⟩ := FQ.out W hSw; go_simp; try with_reducible rfl
      refine tp 12 ?_ rfl (.inl ⟨by rfl, ?_⟩) ?_
      rotate_left
      · intro W hSw; go_simp; try with_reducible rfl
      refine tp 13 ?_ rfl (.inl ⟨by rfl, ?_⟩) ?_
      rotate_left
      · intro W hSw; obtain ⟨z0, z1, z2⟩ := FQ.out W hSw; go_simp; try with_reducible rfl
      refine tp 14 ?_ rfl (.inl ⟨by rfl, ?_⟩) ?_
      rotate_left
      · intro W hSw; go_simp; try with_reducible rfl
      refine tp 15 ?_ rfl (.inl ⟨by rfl, ?_⟩) ?_
      rotate_left
      · intro W hSw; go_simp; try with_reducible rfl
      refine wpAnyH_done (by kernel_rfl) ?_ _
      skip
      have HB := Lib.hid hHeld
      obtain ⟨z0, z1, z2⟩ := FQ.out _ hHeld
      have f1 := (H.out.below hHeld).f1
      clear hHeld
      go_wp2_with fail
      go_quiet (fail)
      go_wp2_with fail
      go_ret2
      refine ⟨.inr ⟨_, _, HX1.out, ?_, HRD.out _ _ (HM.out _ (below_drewN HB.out _))⟩, oth_trans (oth_below B (below_drewN HB.out _)) (oth_set _ _ _ _)⟩
      try simp [d2]
    · have d1 : (1 : Int) < c := by omega
      have HX1 := Lib.hid (show flagP R = none by rw [HX.out, if_neg hc1])
      clear hd hn hB h hle hlen hm hz hc hdd HX ck hl0 hc1
      go_enter Tryz.func144, Tryz.ntmps144
      go_wp2_with fail
      refine (none_law H.out).mono ?_; rintro e w' ⟨rfl, rfl⟩
      go_upto_region 3 with (fail)
      refine wp_region_held_drew (S := (fun X => Below W.heap.size W X)) (by kernel_rfl) ((Below.refl _ _).drew) (fun hHeld => ?_)
      refine tp 0 ?_ rfl (.inl ⟨by rfl, ?_⟩) ?_
      rotate_left
      · intro W hSw; go_simp; try with_reducible rfl
      refine a1 1 rfl (fun K hK => ?_)
      go_simp
      refine (LL.out _ hHeld).mono ?_; rintro e9 w3 ⟨rfl, hb3⟩
      go_wp2_with fail
      refine hK.out _ _ (step_below hHeld hb3) (fun hHeldn => ?_)
      clear hK K hHeld; have hHeld := hHeldn; clear hHeldn
      try simp only [Act.put, List.setIfInBounds_toArray, List.set_cons_zero, List.set_cons_succ]
      refine tp 2 ?_ rfl (.inl ⟨by rfl, ?_⟩) ?_
      rotate_left
      · intro W hSw; go_simp; try with_reducible rfl
      refine tp 3 ?_ rfl (.inl ⟨by rfl, ?_⟩) ?_
      rotate_left
      · intro W hSw; go_simp; try with_reducible rfl
      refine tp 4 ?_ rfl (.inl ⟨by rfl, ?_⟩) ?_
      rotate_left
      · intro W hSw; go_simp; try with_reducible rfl
      refine tp 5 ?_ rfl (.inl ⟨by rfl, ?_⟩) ?_
      rotate_left
      · intro W hSw; go_simp; try with_reducible rfl
      refine tp 6 ?_ rfl (.inl ⟨by rfl, ?_⟩) ?_
      rotate_left
      · intro W hSw; go_simp; try with_reducible rfl
      refine tp 7 ?_ rfl (.inl ⟨by rfl, ?_⟩) ?_
      rotate_left
      · intro W hSw; obtain ⟨z0, z1, z2⟩ := FQ.out W hSw; go_simp; try with_reducible rfl
      refine tp 8 ?_ rfl (.inl ⟨by rfl, ?_⟩) ?_
      rotate_left
      · intro W hSw; go_simp; try with_reducible rfl
      refine tp 9 ?_ rfl (.inl ⟨by rfl, ?_⟩) ?_
      rotate_left
      · intro W hSw; go_simp; try with_reducible rfl
      refine tp 10 ?_ rfl (.inl ⟨by rfl, ?_⟩) ?_
      rotate_left
      · intro W hSw; go_simp; try with_reducible rfl
      refine tp 11 ?_ rfl (.inl ⟨by rfl, ?_⟩) ?_
      rotate_left
      · intro W hSw; obtain ⟨z0, z1, z2⟩ := FQ.out W hSw; go_simp; try with_reducible rfl
      refine tp 12 ?_ rfl (.inl ⟨by rfl, ?_⟩) ?_
      rotate_left
      · intro W hSw; go_simp; try with_reducible rfl
      refine tp 13 ?_ rfl (.inl ⟨by rfl, ?_⟩) ?_
      rotate_left
      · intro W hSw; obtain ⟨z0, z1, z2⟩ := FQ.out W hSw; go_simp; try with_reducible rfl
      refine tp 14 ?_ rfl (.inl ⟨by rfl, ?_⟩) ?_
      rotate_left
      · intro W hSw; go_simp; try with_reducible rfl
      refine tp 15 ?_ rfl (.inl ⟨by rfl, ?_⟩) ?_
      rotate_left
      · intro W hSw; go_simp; try with_reducible rfl
      refine wpAnyH_done (by kernel_rfl) ?_ _
      skip
      have HB := Lib.hid hHeld
      clear hHeld
      go_wp2_with fail
      go_ret2
      exact ⟨.inl ⟨HX1.out, rfl, HRS.out.below HB.out⟩, oth_below B HB.out⟩
end Go.Proofs.YtglkndoghnblcaaGreatDoor
namespace Go.Proofs.YtglkndoghnblcaaGreatDoor
open Go.ChangeShapes Go.WideShapes Go.ChangeAt Go.RowKit
set_option linter.unusedVariables false
set_option linter.unusedSimpArgs false
theorem Rdr.below1 {W W' : World} {B : Nat} {ad : Option Addr} {cap n : Nat} {L : List Int} {p : Nat} (h : Rdr W B ad cap n L p) (b : Below (B + 1) W W') : Rdr W' B ad cap n L p := by
  have hl : B < B + 1 := by omega
  refine ⟨h.len, (b.cell (p := ⟨B, 0, none⟩) hl).trans h.c0, (b.cell (p := ⟨B, 1, none⟩) hl).trans h.c1, (b.cell (p := ⟨B, 2, none⟩) hl).trans h.c2, (b.frozen (p := ⟨B, 0, none⟩) hl).trans h.f0, (b.frozen (p := ⟨B, 1, none⟩) hl).trans h.f1, (b.frozen (p := ⟨B, 2, none⟩) hl).trans h.f2, fun W2 h2 => ?_, h.le, h.apart⟩
  refine h.ls W2 fun k b' off e => ?_
  rw [h2 k b' off e]
  exact b.cell (p := ⟨b', off + k, none⟩) (by have := h.apart b' off e; simp; omega)
theorem grown_below {W a b : World} {row : Option Nat} (h : W.grownBy a row) (k : Below W.heap.size a b) : W.grownBy b row :=
  ⟨k.os.trans h.os, k.tape.trans h.tape, k.output.trans h.output, Nat.le_trans h.size k.size, fun i hi hne => (k.block i hi).trans (h.block i hi hne)⟩
theorem RdS.below1 {W W' : World} {B : Nat} {R : List Int} (h : RdS W B R) (b : Below (B + 1) W W') : RdS W' B R := by
  obtain ⟨ad, cap, n, L, p, h1, h2, h3, h4⟩ := h
  exact ⟨ad, cap, n, L, p, h1.below1 b, h2, h3, h4⟩
theorem BoxC.gr {W W' : World} {B B' : Nat} {cs : Array Value} {t : TypeId} (h : BoxC W B cs t) (g : W.grownBy W' (some B')) (hne : B ≠ B') : BoxC W' B cs t :=
  (g.block B h.lt (by intro e; cases e; exact hne rfl)).trans h
def tidP (L : List Int) : Option ((Nat × Nat) × List Int) :=
  match upP 16777215 L with
  | some (e, r) => match upP 2147483647 r with
    | some (s, r') => some ((e, s), r')
    | none => none
  | none => none
theorem tidP_1 {L : List Int} (h : upP 16777215 L = none) : tidP L = none := by unfold tidP; rw [h]
theorem tidP_2 {L r : List Int} {e : Nat} (h : upP 16777215 L = some (e, r)) (k : upP 2147483647 r = none) : tidP L = none := by unfold tidP; rw [h]; simp only; rw [k]
theorem tidP_3 {L r r' : List Int} {e s : Nat} (h : upP 16777215 L = some (e, r)) (k : upP 2147483647 r = some (s, r')) : tidP L = some ((e, s), r') := by unfold tidP; rw [h]; simp only; rw [k]
set_option maxRecDepth 100000 in
set_option maxHeartbeats 4000000 in
/-- tid (122). -/
theorem tid_law {W : World} {B : Nat} {R : List Int} (h : RdS W B R) :
    Calls Tryz.prog 107 #[.pointer (some ⟨B, 0, none⟩)] W (GetR W B (tidP R) (fun x _ v => v = .agg #[.int .i64 (x.1 : Int), .int .i64 (x.2 : Int)])) := by
  have hlt := h.lt
  have HR := Lib.hid h
  clear h
  go_enter Tryz.func107, Tryz.ntmps107
  go_upto_region 1 with (fail)
  obtain ⟨W1, hW1⟩ : ∃ W1, W.alloc (.cells #[.int .i64 0, .int .i64 0] 23) = W1 := ⟨_, rfl⟩
  have hb1 : Below W.heap.size W W1 := by rw [← hW1]; exact bl1 _ _
  have bx : BoxC W1 W.heap.size #[.int .i64 0, .int .i64 0] 23 := by rw [← hW1]; exact BoxC.new W _ 23
  have hsz : W1.heap.size = W.heap.size + 1 := by rw [← hW1]; simp
  try rw [hW1]
  clear hW1
  have HU := Lib.hid (upto_law (HR.out.below hb1) 16777215 (by decide))
  have HB1 := Lib.hid hb1
  have BX := Lib.hid bx
  clear hb1 bx
  go_wp2_with fail
  refine HU.out.mono ?_
  rintro r w2 ⟨⟨e1, rfl⟩ | ⟨e, R2, v, e1, rfl, rfl, r2⟩, g2⟩
  · have HX := Lib.hid (tidP_1 e1)
    have G := Lib.hid (oth_trans (oth_below B HB1.out) g2)
    clear e1 g2
    go_wp2_with fail
    first | exact ⟨rfl, .inl ⟨HX.out, rfl⟩, G.out⟩ | exact ⟨.inl ⟨HX.out, rfl⟩, G.out⟩
  · have E1 := Lib.hid e1
    have HG := Lib.hid g2
    have HU2 := Lib.hid (upto_law r2 2147483647 (by decide))
    clear e1 g2 r2
    go_wp2_with fail
    refine HU2.out.mono ?_
    rintro r w3 ⟨⟨e2, rfl⟩ | ⟨s, R3, v, e2, rfl, rfl, r3⟩, g3⟩
    · have HX := Lib.hid (tidP_2 E1.out e2)
      have G := Lib.hid (oth_trans (oth_below B HB1.out) (oth_trans HG.out g3))
      clear e2 g3
      go_wp2_with fail
      first | exact ⟨rfl, .inl ⟨HX.out, rfl⟩, G.out⟩ | exact ⟨.inl ⟨HX.out, rfl⟩, G.out⟩
    · have HX := Lib.hid (tidP_3 E1.out e2)
      have G23 := oth_trans HG.out g3
      have G := Lib.hid (oth_trans (oth_below B HB1.out) G23)
      have RR := Lib.hid r3
      have bx3 := BX.out.gr G23 (by omega)
      have z0 := bx3.cell 0
      have z1 := bx3.cell 1
      have f0 := bx3.frozen 0
      have f1 := bx3.frozen 1
      simp only [List.getElem?_toArray, List.getElem?_cons_zero, List.getElem?_cons_succ] at z0 z1
      have HX9 := Lib.hid ((bx3.put 0 (.int .i64 (e : Int))).put 1 (.int .i64 (s : Int)))
      have HB9 := Lib.hid (((Below.refl W.heap.size w3).setCell (p := ⟨W.heap.size, 0, none⟩) (Nat.le_refl _) (.int .i64 (e : Int))).setCell (p := ⟨W.heap.size, 1, none⟩) (Nat.le_refl _) (.int .i64 (s : Int)))
      clear e2 g3 r3 G23 bx3
      go_wp2_with fail
      generalize ((w3.setCell ⟨W.heap.size, 0, none⟩ (.int .i64 (e : Int))).setCell ⟨W.heap.size, 1, none⟩ (.int .i64 (s : Int))) = W9 at *
      refine bodyPost_ret (v := .agg #[.int .i64 (e : Int), .int .i64 (s : Int)]) ?_ rfl ⟨.inr ⟨_, _, _, HX.out, rfl, rfl, RR.out.below1 (HB9.out.mono (by omega))⟩, grown_below G.out HB9.out⟩
      have x0 := HX9.out.cell 0
      have x1 := HX9.out.cell 1
      simp at x0 x1
      simp [results, Tryz.results107, go_sem, x0, x1]
end Go.Proofs.YtglkndoghnblcaaGreatDoor
namespace Go.Proofs.YtglkndoghnblcaaGreatDoor
open Go.ChangeShapes Go.WideShapes Go.ChangeAt Go.RowKit
set_option linter.unusedVariables false
set_option linter.unusedSimpArgs false
theorem info24 : (Tryz.prog.info? 54).map (fun i => (i.zero, i.size, i.bytes)) = some (some (.slice none 0 0), 1, 24) := by kernel_rfl
theorem own_rdr {w : World} {base n : Nat} {v : Value} {R : List P1} (h : w.ownsRow base 54 1 v n (R.map P1.v)) (hn : R.length = n) (hl : ∀ p ∈ R, Ls .u8 w p.ad p.cap p.bs) : ∃ a cap, v = .slice a n cap ∧ RdR w a R := by
  have h' := h
  rcases h.2 with ⟨e, h0⟩ | ⟨g, cap, cur, rfl, hg, _, hc, _⟩
  · have : R = [] := List.length_eq_zero_iff.1 (by omega)
    subst this
    subst h0
    exact ⟨none, 0, e, RdR.nil _ _⟩
  · refine ⟨_, cap, rfl, fun k p hp => ⟨g, 0, rfl, ?_, hl p (List.mem_of_getElem? hp)⟩⟩
    have hk : k < R.length := (List.getElem?_eq_some_iff.1 hp).1
    rw [Nat.zero_add, h'.cellAt k (by omega)]
    simp [hp]
set_option maxRecDepth 100000 in
theorem hnf245 (f : Fn) (c1 c2 : Array Value) (w : World) : (binOp .eql 228 (.func f c1 c2) .nilFunc).run Tryz.prog w = .ok (.bool false) w := by
  first | rfl | simp [binOp, run_underlying Tryz.underlying228] | simp [binOp, Op.equal, run_underlying Tryz.underlying228, go_sem]
/-- Read$1 (175). -/
theorem readone_law {W : World} {B : Nat} {R : List Int} (h : RdS W B R) : Calls Tryz.prog 162 #[.pointer (some ⟨B, 0, none⟩)] W (BytR W B R 24) := by
  have HB := Lib.hid (rbytes_law h 24 (by decide))
  clear h
  go_enter Tryz.func162, Tryz.ntmps162
  go_wp2_with fail
  refine HB.out.mono ?_
  rintro r w' ⟨⟨h1, ⟨e, he, rfl⟩, h2⟩ | ⟨b, R', a, c, h1, rfl, h2, h3⟩, g⟩
  · have HX := Lib.hid (And.intro h1 (And.intro h2 (And.intro he g)))
    clear h1 h2 he g
    go_wp2_with fail
    go_ret2
    exact ⟨.inl ⟨HX.out.1, ⟨e, HX.out.2.2.1, rfl⟩, HX.out.2.1⟩, HX.out.2.2.2⟩
  · have HX := Lib.hid (And.intro h1 (And.intro h2 (And.intro h3 g)))
    obtain ⟨bl, hbl⟩ : ∃ bl, b.length = bl := ⟨_, rfl⟩
    have HL := Lib.hid hbl
    rw [hbl]
    clear h1 h2 h3 g hbl
    go_wp2_with fail
    go_ret2
    exact ⟨.inr ⟨b, R', a, c, HX.out.1, by rw [HL.out]; rfl, HX.out.2.1, HX.out.2.2.1⟩, HX.out.2.2.2⟩
/-- Rows of bytes, owned. -/
def RowsO (w : World) (base : Nat) (fs : List (List Int)) (v : Value) : Prop := ∃ R : List P1, R.map P1.bs = fs ∧ w.ownsRow base 54 1 v fs.length (R.map P1.v) ∧ ∀ p ∈ R, w.ownsRow base 5 1 p.v p.bs.length (iv .u8 p.bs)
theorem RowsO.nil (w : World) (base : Nat) : RowsO w base [] (.slice none 0 0) := ⟨[], rfl, World.ownsRow_nil _ _ _ _, fun p hp => by simp at hp⟩
theorem RowsO.oth {w w' : World} {base B : Nat} {fs : List (List Int)} {v : Value} (h : RowsO w base fs v) (hB : B < base) (g : w.grownBy w' (some B)) : RowsO w' base fs v := by
  obtain ⟨R, h1, h2, h3⟩ := h
  exact ⟨R, h1, own_oth h2 hB g, fun p hp => own_oth (h3 p hp) hB g⟩
theorem RowsO.base {w : World} {b b' : Nat} {fs : List (List Int)} {v : Value} (hb : b ≤ b') (h : RowsO w b' fs v) : RowsO w b fs v := by
  obtain ⟨R, h1, h2, h3⟩ := h
  exact ⟨R, h1, own_base hb h2, fun p hp => own_base hb (h3 p hp)⟩
theorem RowsO.rdr {w : World} {base : Nat} {fs : List (List Int)} {v : Value} (h : RowsO w base fs v) : ∃ a cap R, v = .slice a fs.length cap ∧ R.map P1.bs = fs ∧ RdR w a R := by
  obtain ⟨R, h1, h2, h3⟩ := h
  have hl : R.length = fs.length := by rw [← h1]; simp
  obtain ⟨a, cap, e, k⟩ := own_rdr h2 hl (fun p hp => by obtain ⟨a2, c2, e, l2, _⟩ := own_ls (h3 p hp) rfl; cases e; exact l2)
  exact ⟨a, cap, R, e, h1, k⟩
theorem RowsO.below {w w' : World} {base : Nat} {fs : List (List Int)} {v : Value} (h : RowsO w base fs v) (b : Below w.heap.size w w') : RowsO w' base fs v := by
  obtain ⟨R, h1, h2, h3⟩ := h
  exact ⟨R, h1, own_below h2 b, fun p hp => own_below (h3 p hp) b⟩
def addP {α : Type} (xs : List α) : Option (List α × List Int) → Option (List α × List Int)
  | some (ys, r) => some (xs ++ ys, r)
  | none => none
theorem addP_nil {α : Type} (o : Option (List α × List Int)) : addP [] o = o := by rcases o with _ | ⟨ys, r⟩ <;> rfl
theorem manyP_next {α : Type} {one : List Int → Option (α × List Int)} {n k : Nat} (hk : k < n) (xs : List α) {L r : List Int} {x : α} (h : one L = some (x, r)) : addP xs (manyP one (n - k) L) = addP (xs ++ [x]) (manyP one (n - (k + 1)) r) := by
  obtain ⟨m, hm⟩ : ∃ m, n - k = m + 1 := ⟨n - k - 1, by omega⟩
  rw [hm, show n - (k + 1) = m by omega]
  show addP xs (match one L with | some (x, r) => (match manyP one m r with | some (xs, r') => some (x :: xs, r') | none => none) | none => none) = _
  rw [h]
  simp only
  cases manyP one m r with
  | none => rfl
  | some q => simp [addP]
theorem manyP_stop {α : Type} {one : List Int → Option (α × List Int)} {n k : Nat} (hk : k < n) (xs : List α) {L : List Int} (h : one L = none) : addP xs (manyP one (n - k) L) = none := by
  obtain ⟨m, hm⟩ : ∃ m, n - k = m + 1 := ⟨n - k - 1, by omega⟩
  rw [hm]
  show addP xs (match one L with | some (x, r) => (match manyP one m r with | some (xs, r') => some (x :: xs, r') | none => none) | none => none) = _
  rw [h]
  rfl
theorem listP_eq {α : Type} {most : Nat} {one : List Int → Option (α × List Int)} {L r : List Int} {n : Nat} (h : upP most L = some (n, r)) : listP most one L = addP [] (manyP one (n - 0) r) := by
  rw [addP_nil]; unfold listP; rw [h]; rfl
theorem listP_none {α : Type} {most : Nat} {one : List Int → Option (α × List Int)} {L : List Int} (h : upP most L = none) : listP most one L = none := by
  unfold listP; rw [h]
/-- What Take answers. -/
def TkR {α : Type} (W : World) (B : Nat) (o : Option (List α × List Int)) (V : World → Nat → List α → Value → Prop) (r : Ending) (w' : World) : Prop :=
  ((o = none ∧ ∃ e : Int, Er e ∧ r = .returned (.tuple #[.slice none 0 0, .int .i64 e])) ∨
    ∃ xs R' v, o = some (xs, R') ∧ r = .returned (.tuple #[v, .int .i64 0]) ∧ V w' W.heap.size xs v ∧ RdS w' B R') ∧ W.grownBy w' (some B)
set_option maxRecDepth 100000 in
set_option maxHeartbeats 4000000 in
/-- Take at bytes (174), as a row is read. -/
theorem takerows_law {W : World} {B : Nat} {R0 : List Int} (hR : RdS W B R0) (most : Nat) (hm : most ≤ 1000000) :
    Calls Tryz.prog 161 #[.pointer (some ⟨B, 0, none⟩), .int .i64 (most : Int), .func (.func 162) #[] #[]] W (TkR W B (listP most (bytesP 24) R0) RowsO) := by
  obtain ⟨i0, hi, hz0, hz1, hz2⟩ := info_parts info24
  obtain ⟨ad, cap, n, L, p, h, hd, hn, hBY⟩ := hR
  have e0 := h.c0
  have e1 := h.c1
  have e2 := h.c2
  have H := Lib.hid h
  have hbl := h.lt
  have hnf := hnf245
  have HN := Lib.hid (And.intro hn (And.intro hBY hd))
  clear h hd hn hBY
  go_enter Tryz.func161, Tryz.ntmps161
  go_wp2_with fail
  refine (none_law H.out).mono ?_; rintro e w' ⟨rfl, rfl⟩
  go_wp2_with fail
  have B0 : Below W.heap.size W (W.alloc (.cells #[.slice ad n cap, .int .i64 (p : Int), .bool true] 196)) := (Below.refl _ _).alloc (Nat.le_refl _) _
  have h1 := H.out.below B0
  have kb : BoxC (W.alloc (.cells #[.slice ad n cap, .int .i64 (p : Int), .bool true] 196)) W.heap.size #[.slice ad n cap, .int .i64 (p : Int), .bool true] 196 := BoxC.new _ _ _
  have hsz : (W.alloc (.cells #[.slice ad n cap, .int .i64 (p : Int), .bool true] 196)).heap.size = W.heap.size + 1 := by simp
  clear e0 e1 e2
  generalize W.alloc (.cells #[.slice ad n cap, .int .i64 (p : Int), .bool true] 196) = W1 at B0 h1 kb hsz ⊢
  have HB0 := Lib.hid B0
  have KB := Lib.hid kb
  refine (count_law h1 HN.out.1 HN.out.2.1 most hm).mono ?_
  clear h1 B0 kb
  rintro r w2 ⟨⟨hno, ⟨e, x, he, rfl⟩, q, h2⟩ | ⟨c0, q, hup, hvm, hqn, rfl, h2⟩, g2⟩
  · have HNO := Lib.hid (show listP most (bytesP 24) R0 = none from listP_none (by rw [← HN.out.2.2]; exact hno))
    have kb2 := KB.out.gr g2 (by omega)
    have k0 := kb2.cell 0
    have k1 := kb2.cell 1
    have k2 := kb2.cell 2
    simp only [List.getElem?_toArray, List.getElem?_cons_zero, List.getElem?_cons_succ] at k0 k1 k2
    obtain ⟨z1, z2, z3⟩ := he.ne
    have HER := Lib.hid he
    have e0 := h2.c0
    have e1 := h2.c1
    have e2 := h2.c2
    have f0 := h2.f0
    have f1 := h2.f1
    have f2 := h2.f2
    have HG := Lib.hid (oth_trans (oth_below B HB0.out) g2)
    clear h2 g2 kb2 hno he
    by_cases hx0 : (0 : Int) < x
    · go_wp2_with fail
      go_loopw [10, 11, 12] (fun e' v i wr => e' = .int .i64 e ∧ v = .slice none 0 0 ∧ i = .int .u64 0 ∧ w2 = wr) (fun _ _ i _ => 0)
      case atStart => exact ⟨rfl, rfl, rfl, rfl⟩
      case round =>
        obtain ⟨rfl, rfl, rfl, rfl⟩ := hrel
        go_wp2_with fail
        go_ret2
        exact ⟨.inl ⟨HNO.out, e, HER.out, rfl⟩, oth_trans HG.out (oth_trans (oth_set _ _ _ _) (oth_trans (oth_set _ _ _ _) (oth_set _ _ _ _)))⟩
    · go_wp2_with fail
      go_loopw [10, 11, 12] (fun e' v i wr => e' = .int .i64 e ∧ v = .slice none 0 0 ∧ i = .int .u64 0 ∧ w2 = wr) (fun _ _ i _ => 0)
      case atStart => exact ⟨rfl, rfl, rfl, rfl⟩
      case round =>
        obtain ⟨rfl, rfl, rfl, rfl⟩ := hrel
        go_wp2_with fail
        go_ret2
        exact ⟨.inl ⟨HNO.out, e, HER.out, rfl⟩, oth_trans HG.out (oth_trans (oth_set _ _ _ _) (oth_trans (oth_set _ _ _ _) (oth_set _ _ _ _)))⟩
  · have hcm : c0 ≤ 1000000 := by omega
    have HTG := Lib.hid (show listP most (bytesP 24) R0 = addP [] (manyP (bytesP 24) (c0 - 0) (L.drop q)) from listP_eq (by rw [← HN.out.2.2]; exact hup))
    have HS2 := Lib.hid (show RdS w2 B (L.drop q) from ⟨ad, cap, n, L, q, h2, rfl, HN.out.1, HN.out.2.1⟩)
    have KB2 := Lib.hid (KB.out.gr g2 (by omega))
    have HG := Lib.hid (oth_trans (oth_below B HB0.out) g2)
    have HSZ := Lib.hid (show W.heap.size + 1 ≤ w2.heap.size by rw [← hsz]; exact g2.size)
    clear h2 g2 hup hsz hvm hqn
    go_wp2_with fail
    go_loopw [10, 11, 12] (fun e v i wr => (e = .int .i64 0 ∧ ∃ (k : Nat) (fs : List (List Int)) (Rk : List Int), k ≤ c0 ∧ i = .int .u64 (k : Int) ∧ Hid (fs.length = k ∧ listP most (bytesP 24) R0 = addP fs (manyP (bytesP 24) (c0 - k) Rk)) ∧ Hid (RowsO wr (W.heap.size + 1) fs v) ∧ Hid (RdS wr B Rk) ∧ Hid (BoxC wr W.heap.size #[.slice ad n cap, .int .i64 (p : Int), .bool true] 196) ∧ Hid (W.grownBy wr (some B)) ∧ Hid (W.heap.size + 1 ≤ wr.heap.size)) ∨ (∃ (ev : Int) (k : Nat), Hid (listP most (bytesP 24) R0 = none) ∧ Hid (Er ev) ∧ e = .int .i64 ev ∧ k ≤ c0 ∧ i = .int .u64 (k : Int) ∧ Hid (∃ Rk, RdS wr B Rk) ∧ Hid (BoxC wr W.heap.size #[.slice ad n cap, .int .i64 (p : Int), .bool true] 196) ∧ Hid (W.grownBy wr (some B)))) (fun _ _ i _ => c0 - (intOf i).toNat)
    case atStart => exact .inl ⟨rfl, 0, [], _, by omega, rfl, Lib.hid ⟨rfl, HTG.out⟩, Lib.hid (RowsO.nil _ _), HS2, KB2, HG, HSZ⟩
    case round =>
      clear HTG HS2 KB2 HG HSZ
      rcases hrel with ⟨rfl, k, fs, Rk, hk, rfl, HL, HO, HS, KB2, HG, HSZ⟩ | ⟨ev, k, HNO, HEV, rfl, hk, rfl, HS, KB2, HG⟩
      · by_cases hkc : k < c0
        · have hkci : (k : Int) < (c0 : Int) := by omega
          have RO := Lib.hid (readone_law HS.out)
          go_wp2_with fail
          refine RO.out.mono ?_
          rintro e w3 ⟨⟨h1, ⟨ev, he, rfl⟩, h2⟩ | ⟨f, R', a1, c1, h1, rfl, l1, h3⟩, g1⟩
          · have HNO := Lib.hid (show listP most (bytesP 24) R0 = none by rw [HL.out.2]; exact manyP_stop hkc fs h1)
            have HEV := Lib.hid he
            obtain ⟨RR, hR1, hown, hRl⟩ := HO.out
            rw [HL.out.1] at hown
            have hown3 := own_oth hown (by omega) g1
            have hsz4 : W.heap.size + 1 ≤ w3.heap.size := Nat.le_trans HSZ.out g1.size
            have HO3 := Lib.hid hown3
            have HB3 := Lib.hid (KB2.out.gr g1 (by omega))
            have HG3 := Lib.hid (oth_trans HG.out g1)
            have HD1 := Lib.hid h2
            clear hown3 g1 HO HG KB2 RO HS h1 h2 he hown hRl hR1
            go_wp2_with (at_builtin; refine wpList_append_own _ rfl (.tmp 44) (.tmp 46) 69 rfl (W.heap.size + 1) 54 i0 (.slice none 0 0) 1 24 Tryz.underlying69 hi hz0 hz1 hz2 rfl (by decide) _ k (RR.map P1.v) rfl (HO3.out.alloc _) ⟨w3.heap.size, 0, none⟩ 1 1 [.slice none 0 0] rfl rfl (by intro j u hj; match j, hj with | 0, hj => (simp at hj; subst hj; simp [Addr.add, go_sem])) (by intro u hu; simp at hu; subst hu; rfl) (by unfold maxLen; omega) (by omega) (by simp; omega) ?_)
            intro v4 w4 hown4 hgrow4 _
            have b4 : Below (W.heap.size + 1) w3 w4 := ((Below.refl _ w3).alloc hsz4 _).grown hgrow4 (by simp; omega) (fun j hj => (HO3.out.lt j hj).1)
            have HKB := Lib.hid (show BoxC w4 W.heap.size #[.slice ad n cap, .int .i64 (p : Int), .bool true] 196 from (b4.block _ (by omega)).trans HB3.out)
            have HR4 := Lib.hid (show ∃ Rk, RdS w4 B Rk from ⟨_, HD1.out.below1 (b4.mono (by omega))⟩)
            have HG4 := Lib.hid (grown_below HG3.out (b4.mono (by omega)))
            clear b4 hown4 hgrow4
            go_wp2_with fail
            go_roundw
            case rel => exact .inr ⟨ev, k + 1, HNO, HEV, rfl, by omega, by go_num, HR4, HKB, HG4⟩
            case measure => simp [intOf]; omega
          · have HNX := Lib.hid (show listP most (bytesP 24) R0 = addP (fs ++ [f]) (manyP (bytesP 24) (c0 - (k + 1)) R') by rw [HL.out.2]; exact manyP_next hkc fs h1)
            obtain ⟨RR, hR1, hown, hRl⟩ := HO.out
            rw [HL.out.1] at hown
            have hsz3 := HSZ.out
            have hown3 := own_oth hown (by omega) g1
            have hsz4 : W.heap.size + 1 ≤ w3.heap.size := Nat.le_trans hsz3 g1.size
            have HR3 := Lib.hid (show ∀ p ∈ RR, w3.ownsRow (W.heap.size + 1) 5 1 p.v p.bs.length (iv .u8 p.bs) from fun p hp => own_oth (hRl p hp) (by omega) g1)
            have HO3 := Lib.hid hown3
            have HB3 := Lib.hid (KB2.out.gr g1 (by omega))
            have HG3 := Lib.hid (oth_trans HG.out g1)
            have HL1 := Lib.hid (own_base hsz3 l1)
            have HD1 := Lib.hid h3
            have HRM := Lib.hid hR1
            obtain ⟨fl, hfl⟩ : ∃ fl, f.length = fl := ⟨_, rfl⟩
            rw [hfl]
            have HFL := Lib.hid hfl
            clear hown3 g1 HO HG KB2 RO HS h1 h3 l1 hown hRl hR1 hfl
            go_wp2_with (at_builtin; refine wpList_append_own _ rfl (.tmp 44) (.tmp 46) 69 rfl (W.heap.size + 1) 54 i0 (.slice none 0 0) 1 24 Tryz.underlying69 hi hz0 hz1 hz2 rfl (by decide) _ k (RR.map P1.v) rfl (HO3.out.alloc _) ⟨w3.heap.size, 0, none⟩ 1 1 [.slice a1 fl c1] rfl rfl (by intro j u hj; match j, hj with | 0, hj => (simp at hj; subst hj; simp [Addr.add, go_sem])) (by intro u hu; simp at hu; subst hu; rfl) (by unfold maxLen; omega) (by omega) (by simp; omega) ?_)
            intro v4 w4 hown4 hgrow4 _
            have keep : ∀ (x : Value) (m : Nat) (xs : List Value), w3.ownsRow (W.heap.size + 1) 5 1 x m xs → w4.ownsRow (W.heap.size + 1) 5 1 x m xs := fun x m xs hx => (hx.alloc _).kept hgrow4 (own_apart hx HO3.out (by decide))
            have b4 : Below (W.heap.size + 1) w3 w4 := ((Below.refl _ w3).alloc hsz4 _).grown hgrow4 (by simp; omega) (fun j hj => (HO3.out.lt j hj).1)
            have HO4 := Lib.hid (show RowsO w4 (W.heap.size + 1) (fs ++ [f]) v4 by
              refine ⟨RR ++ [⟨a1, c1, f⟩], by rw [List.map_append, HRM.out]; rfl, ?_, fun p hp => ?_⟩
              · rw [List.map_append, List.length_append, HL.out.1]
                have e : [P1.mk a1 c1 f].map P1.v = [.slice a1 fl c1] := by simp [P1.v, HFL.out]
                rw [e]; exact hown4
              · rcases List.mem_append.1 hp with hp | hp
                · exact keep _ _ _ (HR3.out p hp)
                · simp at hp
                  subst hp
                  have := keep _ _ _ HL1.out
                  simpa [P1.v, HFL.out] using this)
            have HKB := Lib.hid (show BoxC w4 W.heap.size #[.slice ad n cap, .int .i64 (p : Int), .bool true] 196 from (b4.block _ (by omega)).trans HB3.out)
            have HR4 := Lib.hid (HD1.out.below1 (b4.mono (by omega)))
            have HG4 := Lib.hid (grown_below HG3.out (b4.mono (by omega)))
            have HSZ4 := Lib.hid (show W.heap.size + 1 ≤ w4.heap.size from Nat.le_trans hsz4 b4.size)
            have HL4 := Lib.hid (show (fs ++ [f]).length = k + 1 by rw [List.length_append, HL.out.1]; rfl)
            clear b4 hown4 hgrow4 keep
            go_wp2_with fail
            go_roundw
            case rel => exact .inl ⟨rfl, k + 1, fs ++ [f], R', by omega, by go_num, Lib.hid ⟨HL4.out, HNX.out⟩, HO4, HR4, HKB, HG4, HSZ4⟩
            case measure => simp [intOf]; omega
        · have hkci : ¬ (k : Int) < (c0 : Int) := by omega
          have ekc : c0 - k = 0 := by omega
          have HYES := Lib.hid (show listP most (bytesP 24) R0 = some (fs, Rk) by rw [HL.out.2, ekc]; simp [manyP, addP])
          clear ekc
          go_wp2_with fail
          go_ret2
          exact ⟨.inr ⟨fs, Rk, _, HYES.out, rfl, HO.out.base (by omega), HS.out⟩, HG.out⟩
      · obtain ⟨z1, z2, z3⟩ := HEV.out.ne
        obtain ⟨Rk, ad2, cap2, n2, L2, p2, hr, _⟩ := HS.out
        have e0 := hr.c0
        have e1 := hr.c1
        have e2 := hr.c2
        have f0 := hr.f0
        have f1 := hr.f1
        have f2 := hr.f2
        have k0 := KB2.out.cell 0
        have k1 := KB2.out.cell 1
        have k2 := KB2.out.cell 2
        simp only [List.getElem?_toArray, List.getElem?_cons_zero, List.getElem?_cons_succ] at k0 k1 k2
        clear hr HS
        by_cases hkc : k < c0
        · have hkci : (k : Int) < (c0 : Int) := by omega
          go_wp2_with fail
          go_ret2
          exact ⟨.inl ⟨HNO.out, ev, HEV.out, rfl⟩, oth_trans HG.out (oth_trans (oth_set _ _ _ _) (oth_trans (oth_set _ _ _ _) (oth_set _ _ _ _)))⟩
        · have hkci : ¬ (k : Int) < (c0 : Int) := by omega
          go_wp2_with fail
          go_ret2
          exact ⟨.inl ⟨HNO.out, ev, HEV.out, rfl⟩, oth_trans HG.out (oth_trans (oth_set _ _ _ _) (oth_trans (oth_set _ _ _ _) (oth_set _ _ _ _)))⟩
end Go.Proofs.YtglkndoghnblcaaGreatDoor
namespace Go.Proofs.YtglkndoghnblcaaGreatDoor
open Go.ChangeShapes Go.WideShapes Go.ChangeAt Go.RowKit
set_option linter.unusedVariables false
set_option linter.unusedSimpArgs false
theorem manyP_length {α : Type} {one : List Int → Option (α × List Int)} : ∀ (n : Nat) (L r : List Int) (xs : List α), manyP one n L = some (xs, r) → xs.length = n
  | 0, L, r, xs, h => by cases h; rfl
  | n + 1, L, r, xs, h => by
    unfold manyP at h
    cases ho : one L with
    | none => rw [ho] at h; cases h
    | some p =>
      obtain ⟨x, s⟩ := p
      rw [ho] at h
      simp only at h
      cases hm : manyP one n s with
      | none => rw [hm] at h; cases h
      | some q =>
        obtain ⟨ys, t⟩ := q
        rw [hm] at h
        cases h
        have := manyP_length n s r ys hm
        simp [this]
theorem manyP_len {α : Type} {one : List Int → Option (α × List Int)} {most : Nat} {L r : List Int} {xs : List α} (h : listP most one L = some (xs, r)) : xs.length ≤ most := by
  unfold listP at h
  cases hu : upP most L with
  | none => rw [hu] at h; cases h
  | some p =>
    obtain ⟨n, s⟩ := p
    rw [hu] at h
    simp only at h
    have h1 := manyP_length n s r xs h
    unfold upP at hu
    cases hn : numR 0 0 L with
    | none => rw [hn] at hu; cases hu
    | some q =>
      obtain ⟨u, j⟩ := q
      rw [hn] at hu
      simp only at hu
      split at hu
      · cases hu; omega
      · cases hu
def mayF (fs : List (List Int)) : Bool := fs.all (fun f => decide (f.length ≤ 24)) && decide (1 ≤ fs.length ∧ fs.length ≤ 3)
theorem mayR_F (R : List P1) : mayR R = mayF (R.map P1.bs) := by
  unfold mayR mayF
  rw [List.length_map]
  congr 1
  induction R with
  | nil => rfl
  | cons p R ih => simp only [allB, List.map_cons, List.all_cons] at ih ⊢; rw [ih]
def rowP (L : List Int) : Option (List (List Int)) := match listP 3 (bytesP 24) L with
  | some (fs, r) => if r = [] ∧ mayF fs = true then some fs else none
  | none => none
theorem rowP_1 {L : List Int} (h : listP 3 (bytesP 24) L = none) : rowP L = none := by unfold rowP; rw [h]
theorem rowP_2 {L r : List Int} {fs : List (List Int)} (h : listP 3 (bytesP 24) L = some (fs, r)) (hr : ¬ (r = [] ∧ mayF fs = true)) : rowP L = none := by unfold rowP; rw [h]; simp only [hr, if_false]
theorem rowP_3 {L : List Int} {fs : List (List Int)} (h : listP 3 (bytesP 24) L = some (fs, [])) (hr : mayF fs = true) : rowP L = some fs := by unfold rowP; rw [h]; simp only [hr, and_self, if_true]
def RowR (w : World) (o : Option (List (List Int))) (r : Ending) (w' : World) : Prop :=
  ((o = none ∧ r = .returned (.tuple #[.slice none 0 0, .int .i64 4])) ∨ ∃ fs v, o = some fs ∧ r = .returned (.tuple #[v, .int .i64 0]) ∧ RowsO w' w.heap.size fs v) ∧ Below w.heap.size w w'
set_option maxRecDepth 100000 in
set_option maxHeartbeats 4000000 in
/-- row.Read (171). -/
theorem rowread_law (a : Option Addr) (L : List Int) (n cap : Nat) (hL : L.length = n) (hn : n ≤ 1000000) (hB : Byt L) (w : World) (hA : Ls .u8 w a cap L) :
    Calls Tryz.prog 154 #[.slice a n cap] w (RowR w (rowP L)) := by
  have H1 := Lib.hid (open_law a L n cap hL hn hB w hA)
  clear hL hA hB
  go_enter Tryz.func154, Tryz.ntmps154
  go_wp2_with fail
  refine H1.out.mono ?_; rintro e w1 ⟨B, rfl, r1, hB, B1⟩
  have HT := Lib.hid (takerows_law r1 3 (by decide))
  have HB1 := Lib.hid (And.intro hB B1)
  clear r1 hB B1
  go_wp2_with fail
  refine HT.out.mono ?_
  rintro e w2 ⟨⟨h1, ev, he, rfl⟩ | ⟨fs, R', v, h1, rfl, hv, h3⟩, g2⟩
  · have HX := Lib.hid (rowP_1 h1)
    have HB2 := Lib.hid (below_oth HB1.out.2 g2 HB1.out.2.size HB1.out.1)
    obtain ⟨z1, z2, z3⟩ := he.ne
    clear h1 he g2 HT
    go_wp2_with fail
    go_ret2
    exact ⟨.inl ⟨HX.out, rfl⟩, HB2.out⟩
  · have HB2 := Lib.hid (below_oth HB1.out.2 g2 HB1.out.2.size HB1.out.1)
    have HE := Lib.hid (end_law h3)
    have HO := Lib.hid (hv.base HB1.out.2.size)
    obtain ⟨a', c', RR, rfl, hR1, hR2⟩ := hv.rdr
    have HLI := Lib.hid h1
    obtain ⟨bm, hbm⟩ : ∃ b, mayF fs = b := ⟨_, rfl⟩
    have HBM := Lib.hid hbm
    obtain ⟨fl, hfl⟩ : ∃ fl, fs.length = fl := ⟨_, rfl⟩
    have hRn : RR.length = fl := by rw [← hfl, ← hR1]; simp
    have hfl3 : fl ≤ 1000000 := by
      have := manyP_len h1
      omega
    have HM := Lib.hid (fun W (b : Below w2.heap.size w2 W) => by have := mayr_law a' RR fl c' hRn hfl3 W (hR2.below b); rwa [mayR_F, hR1, hbm] at this)
    rw [hfl] at HO ⊢
    have HFL := Lib.hid hfl
    clear h1 h3 g2 hv hR1 hR2 hRn hfl hbm HT
    go_wp2_with fail
    refine HE.out.mono ?_; rintro e w3 ⟨rfl, B3⟩
    by_cases hz : R' = []
    · subst hz
      have HB3 := Lib.hid B3
      clear B3
      simp only [if_true]
      cases bm with
      | false =>
        have HX := Lib.hid (rowP_2 HLI.out (fun q => by rw [HBM.out] at q; cases q.2))
        go_wp2_with fail
        refine (HM.out _ HB3.out).mono ?_; rintro e w4 ⟨rfl, B4⟩
        go_wp2_with fail
        go_ret2
        exact ⟨.inl ⟨HX.out, rfl⟩, step_below (step_below HB2.out HB3.out) B4⟩
      | true =>
        have HX := Lib.hid (rowP_3 HLI.out HBM.out)
        go_wp2_with fail
        refine (HM.out _ HB3.out).mono ?_; rintro e w4 ⟨rfl, B4⟩
        go_wp2_with fail
        go_ret2
        exact ⟨.inr ⟨fs, _, HX.out, rfl, (HO.out.below HB3.out).below B4⟩, step_below (step_below HB2.out HB3.out) B4⟩
    · have HX := Lib.hid (rowP_2 HLI.out (fun q => hz q.1))
      have HB3 := Lib.hid B3
      rw [if_neg hz]
      clear B3 hz
      go_wp2_with fail
      go_ret2
      exact ⟨.inl ⟨HX.out, rfl⟩, step_below HB2.out HB3.out⟩
def arowP (L : List Int) : Option (List (List Int) × List Int) := match bytesP 4096 L with
  | some (b, r) => (match rowP b with
    | some fs => some (fs, r)
    | none => none)
  | none => none
theorem arowP_1 {L : List Int} (h : bytesP 4096 L = none) : arowP L = none := by unfold arowP; rw [h]
theorem arowP_2 {L b r : List Int} (h : bytesP 4096 L = some (b, r)) (k : rowP b = none) : arowP L = none := by unfold arowP; rw [h]; simp only; rw [k]
theorem arowP_3 {L b r : List Int} {fs : List (List Int)} (h : bytesP 4096 L = some (b, r)) (k : rowP b = some fs) : arowP L = some (fs, r) := by unfold arowP; rw [h]; simp only; rw [k]
set_option maxRecDepth 100000 in
set_option maxHeartbeats 4000000 in
/-- aRow (140). -/
theorem arow_law {W : World} {B : Nat} {R : List Int} (h : RdS W B R) :
    Calls Tryz.prog 126 #[.pointer (some ⟨B, 0, none⟩)] W (GetR W B (arowP R) (fun x w' v => RowsO w' W.heap.size x v)) := by
  have HB := Lib.hid (rbytes_law h 4096 (by decide))
  have HBY := Lib.hid h.byt
  clear h
  go_enter Tryz.func126, Tryz.ntmps126
  go_wp2_with fail
  refine HB.out.mono ?_
  rintro r w2 ⟨⟨h1, ⟨e, he, rfl⟩, h2⟩ | ⟨b, R', a, c, h1, rfl, h2, h3⟩, g⟩
  · have HX := Lib.hid (arowP_1 h1)
    have HE := Lib.hid he.ne.2.2
    have G := Lib.hid g
    clear h1 h2 he g
    go_wp2_with fail
    refine (must_bytes_no _ e HE.out _).mono ?_
    rintro r w' ⟨rfl, rfl⟩
    go_wp2_with fail
    first | exact ⟨rfl, .inl ⟨HX.out, rfl⟩, G.out⟩ | exact ⟨.inl ⟨HX.out, rfl⟩, G.out⟩
  · obtain ⟨i1, i2⟩ := bytesP_inv HBY.out h1
    have hbb : Byt b := fun x hx => HBY.out x (by rw [i2]; unfold bytesW; simp [hx])
    obtain ⟨a2, c2, e2, l2, _⟩ := own_ls h2 rfl
    cases e2
    have HRR := Lib.hid (rowread_law a b b.length c rfl (by omega) hbb w2 l2)
    have H1 := Lib.hid h1
    have HS := Lib.hid h3
    have G := Lib.hid g
    obtain ⟨bl, hbl⟩ : ∃ bl, b.length = bl := ⟨_, rfl⟩
    rw [hbl] at HRR ⊢
    clear h1 h2 h3 g i1 i2 hbb l2 hbl HB
    go_wp2_with fail
    refine (must_bytes_ok _ _).mono ?_
    rintro r w' ⟨rfl, rfl⟩
    go_wp2_with fail
    refine HRR.out.mono ?_
    rintro r w3 ⟨⟨h4, rfl⟩ | ⟨fs, v, h4, rfl, hv⟩, B3⟩
    · have HX := Lib.hid (arowP_2 H1.out h4)
      have HB3 := Lib.hid B3
      clear h4 B3
      go_wp2_with fail
      refine (must_row_no _ 4 (by decide) _).mono ?_
      rintro r w' ⟨rfl, rfl⟩
      go_wp2_with fail
      first | exact ⟨rfl, .inl ⟨HX.out, rfl⟩, oth_trans G.out (oth_below B HB3.out)⟩ | exact ⟨.inl ⟨HX.out, rfl⟩, oth_trans G.out (oth_below B HB3.out)⟩
    · have HX := Lib.hid (arowP_3 H1.out h4)
      have HB3 := Lib.hid B3
      have HV := Lib.hid (hv.base G.out.size)
      clear h4 B3 hv
      go_wp2_with fail
      refine (must_row_ok _ _).mono ?_
      rintro r w' ⟨rfl, rfl⟩
      go_wp2_with fail
      go_ret
      exact ⟨.inr ⟨fs, _, _, HX.out, rfl, HV.out, HS.out.below HB3.out⟩, oth_trans G.out (oth_below B HB3.out)⟩
end Go.Proofs.YtglkndoghnblcaaGreatDoor
