/- LogCheckpoints: every checkpoint's bytes, and what any bytes tell, for every argument. Part 2. -/
import Derived.Test.YtglkndoghnblcaaGreatOca
import Derived.Test.YtglkndoghnblcaaGreatOvh
import Derived.Test.YtglkndoghnblcaaGreatOvg
import Derived.Deep.DeepCutAuto
import Derived.Test.YtglkndoghnblcaaGreatOvf
import Derived.Test.YtglkndoghnblcaaGreatOve
import Derived.Test.YtglkndoghnblcaaGreatOvb
import Derived.IntWalk
import Derived.Shelf.Abstract
import Derived.Test.YtglkndoghnblcaaGreatOvi
import Derived.Deep.Slices
import Derived.Deep.Fields
import Derived.Deep.Matrix
import Derived.ProofKit
import Derived.Lib.Bytes
import Derived.ChangeSame
import Derived.SizedLaws
import Derived.OpenShut
import Derived.Test.YtglkndoghnblcaaGreatOvk
import Derived.Test.YtglkndoghnblcaaGreatOvd
import Derived.Test.YtglkndoghnblcaaGreatOvc
import Derived.Test.YtglkndoghnblcaaGreatOva
namespace Go.Proofs.YtglkndoghnblcaaGreat
open Go.ChangeShapes Go.WideShapes Go.ChangeAt Go.RowKit
set_option linter.unusedVariables false
set_option linter.unusedSimpArgs false
/-- A row's payload, of a table. -/
def storP (i : Nat) (q : List Int) : Option Pl := match readP (plP q) with
  | some x => if x.t = i then some x else none
  | none => none
theorem storP_some {i : Nat} {q : List Int} {x : Pl} (h : storP i q = some x) : readP (plP q) = some x ∧ x.t = i := by
  unfold storP at h
  cases hr : readP (plP q) with
  | none => rw [hr] at h; cases h
  | some y =>
    rw [hr] at h
    simp only at h
    split at h
    · rename_i ht; cases h; exact ⟨rfl, ht⟩
    · cases h
theorem storP_mk {i : Nat} {q : List Int} {x : Pl} (h : readP (plP q) = some x) (ht : x.t = i) : storP i q = some x := by
  unfold storP; rw [h]; simp only; rw [if_pos ht]
theorem readP_of {α : Type} {o : Option (α × List Int)} {x : α} (h : readP o = some x) : o = some (x, []) := by
  unfold readP at h
  split at h
  · split at h
    · rename_i hr; cases h; rw [hr]
    · cases h
  · cases h
theorem storP_no {i : Nat} {q : List Int} (h : ∀ x, plP q = some (x, []) → x.t = i → False) : storP i q = none := by
  cases hs : storP i q with
  | none => rfl
  | some x =>
    obtain ⟨h1, h2⟩ := storP_some hs
    exact (h x (readP_of h1) h2).elim
theorem pl_inv {q r : List Int} {x : Pl} (h : plP q = some (x, r)) : ∃ r1 r2 r3, upP 4 q = some (x.t, r1) ∧ bytesP 32 r1 = some (x.k, r2) ∧ arowP r2 = some (x.fs, r3) ∧ ∃ r4, upP 16777215 r3 = some (x.e, r4) ∧ upP 2147483647 r4 = some (x.s, r) := by
  unfold plP at h
  obtain ⟨t, r1, h1, h⟩ := bindP_inv h
  obtain ⟨k, r2, h2, h⟩ := bindP_inv h
  obtain ⟨fs, r3, h3, h⟩ := bindP_inv h
  obtain ⟨ts, r4, h4, h⟩ := bindP_inv h
  cases h
  refine ⟨r1, r2, r3, h1, h2, h3, ?_⟩
  unfold tidP at h4
  split at h4
  · rename_i e r5 h5
    split at h4
    · rename_i s r6 h6
      cases h4
      exact ⟨r5, h5, h6⟩
    · cases h4
  · cases h4
theorem storP_1 {i : Nat} {q : List Int} (hi : i ≤ 3) (h : upP 3 q = none) : storP i q = none := storP_no fun x hx ht => by
  obtain ⟨r1, r2, r3, h1, _⟩ := pl_inv hx
  rcases up3_none h with h2 | ⟨t, r, h2, h3⟩
  · rw [h1] at h2; cases h2
  · rw [h1] at h2; cases h2; omega
theorem storP_2 {i t : Nat} {q r1 : List Int} (h : upP 3 q = some (t, r1)) (k : bytesP 32 r1 = none) : storP i q = none := storP_no fun x hx ht => by
  obtain ⟨_, _, _, h1, h2, _⟩ := pl_inv hx
  rw [(up3_some h).1] at h1
  cases h1
  rw [k] at h2
  cases h2
theorem storP_3 {i t : Nat} {q r1 : List Int} (h : upP 3 q = some (t, r1)) (k : t ≠ i) : storP i q = none := storP_no fun x hx ht => by
  obtain ⟨_, _, _, h1, _⟩ := pl_inv hx
  rw [(up3_some h).1] at h1
  have h2 : t = x.t := congrArg Prod.fst (Option.some.inj h1)
  exact k (h2.trans ht)
theorem storP_4 {i t : Nat} {q r1 r2 b : List Int} (h : upP 3 q = some (t, r1)) (h2 : bytesP 32 r1 = some (b, r2)) (k : arowP r2 = none) : storP i q = none := storP_no fun x hx ht => by
  obtain ⟨_, _, _, q1, q2, q3, _⟩ := pl_inv hx
  rw [(up3_some h).1] at q1
  cases q1
  rw [h2] at q2
  cases q2
  rw [k] at q3
  cases q3
theorem storP_5 {i t : Nat} {q r1 r2 r3 b : List Int} {fs : List (List Int)} (h : upP 3 q = some (t, r1)) (h2 : bytesP 32 r1 = some (b, r2)) (h3 : arowP r2 = some (fs, r3)) (k : upP 16777215 r3 = none) : storP i q = none := storP_no fun x hx ht => by
  obtain ⟨_, _, _, q1, q2, q3, _, q4, _⟩ := pl_inv hx
  rw [(up3_some h).1] at q1
  cases q1
  rw [h2] at q2
  cases q2
  rw [h3] at q3
  cases q3
  rw [k] at q4
  cases q4
theorem storP_6 {i t e : Nat} {q r1 r2 r3 r4 b : List Int} {fs : List (List Int)} (h : upP 3 q = some (t, r1)) (h2 : bytesP 32 r1 = some (b, r2)) (h3 : arowP r2 = some (fs, r3)) (h4 : upP 16777215 r3 = some (e, r4)) (k : upP 2147483647 r4 = none) : storP i q = none := storP_no fun x hx ht => by
  obtain ⟨_, _, _, q1, q2, q3, _, q4, q5⟩ := pl_inv hx
  rw [(up3_some h).1] at q1
  cases q1
  rw [h2] at q2
  cases q2
  rw [h3] at q3
  cases q3
  rw [h4] at q4
  cases q4
  rw [k] at q5
  cases q5
theorem storP_pl {t e s : Nat} {q r1 r2 r3 r4 r5 b : List Int} {fs : List (List Int)} (h : upP 3 q = some (t, r1)) (h2 : bytesP 32 r1 = some (b, r2)) (h3 : arowP r2 = some (fs, r3)) (h4 : upP 16777215 r3 = some (e, r4)) (h5 : upP 2147483647 r4 = some (s, r5)) : plP q = some (⟨t, b, fs, e, s⟩, r5) := by
  unfold plP
  rw [bindP_some (up3_some h).1, bindP_some h2, bindP_some h3, bindP_some (tidP_3 h4 h5)]
theorem storP_7 {i t e s : Nat} {q r1 r2 r3 r4 r5 b : List Int} {fs : List (List Int)} (h : upP 3 q = some (t, r1)) (h2 : bytesP 32 r1 = some (b, r2)) (h3 : arowP r2 = some (fs, r3)) (h4 : upP 16777215 r3 = some (e, r4)) (h5 : upP 2147483647 r4 = some (s, r5)) (k : r5 ≠ []) : storP i q = none := storP_no fun x hx ht => by
  rw [storP_pl h h2 h3 h4 h5] at hx
  cases hx
  exact k rfl
theorem storP_8 {t e s : Nat} {q r1 r2 r3 r4 b : List Int} {fs : List (List Int)} (h : upP 3 q = some (t, r1)) (h2 : bytesP 32 r1 = some (b, r2)) (h3 : arowP r2 = some (fs, r3)) (h4 : upP 16777215 r3 = some (e, r4)) (h5 : upP 2147483647 r4 = some (s, [])) : storP t q = some ⟨t, b, fs, e, s⟩ :=
  storP_mk (readP_3 (storP_pl h h2 h3 h4 h5)) rfl
/-- A result's box (N), a reader's (B), while a thing is read. -/
structure BxJ (w : World) (B : Nat) (R : List Int) (zs : Array Value) (t : TypeId) (W : World) : Prop where
  bel : Below w.heap.size w W
  bx : BoxC W w.heap.size zs t
  rd : RqS W B R
  l1 : w.heap.size < B
theorem BxJ.step {w W W' : World} {B : Nat} {R R' : List Int} {zs : Array Value} {t : TypeId} (h : BxJ w B R zs t W) (g : W.grownBy W' (some B)) (hr : RqS W' B R') : BxJ w B R' zs t W' :=
  ⟨below_oth h.bel g h.bel.size (Nat.le_of_lt h.l1), h.bx.gr g (Nat.ne_of_lt h.l1), hr, h.l1⟩
theorem BxJ.below {w W W' : World} {B : Nat} {R : List Int} {zs : Array Value} {t : TypeId} (h : BxJ w B R zs t W) (b : Below W.heap.size W W') : BxJ w B R zs t W' :=
  ⟨step_below h.bel b, h.bx.below b, h.rd.below b, h.l1⟩
/-- What the document's stored answers. -/
def StQ (w : World) (i : Nat) (L : List Int) (r : Ending) (w' : World) : Prop :=
  (∃ (st : StP) (ok : Bool), r = .returned (.tuple #[st.v, .bool ok]) ∧ (ok = true → StOw w' w.heap.size st ∧ ∃ x, storP i L = some x ∧ plC x = stC st) ∧ (ok = false → storP i L = none)) ∧ Below w.heap.size w w'
theorem StQ.no {w w' : World} {i : Nat} {L : List Int} (ka ra : Option Addr) (kc rc : Nat) (K : List Int) (RR : List P1) (kl fl : Nat) (e s : Int) (hk : K.length = kl) (hf : RR.length = fl) (h : storP i L = none) (b : Below w.heap.size w w') : StQ w i L (.returned (.tuple #[.agg #[.slice ka kl kc, .slice ra fl rc, .int .i64 e, .int .i64 s], .bool false])) w' := by
  subst hk hf
  exact ⟨⟨⟨ka, kc, K, ra, rc, RR, e, s⟩, false, rfl, fun h => (by cases h), fun _ => h⟩, b⟩
set_option maxRecDepth 100000 in
set_option maxHeartbeats 4000000 in
/-- The document's stored (89). -/
theorem storedq_law (a : Option Addr) (L : List Int) (n cap i : Nat) (hn : L.length = n) (hn2 : n ≤ 1000000) (hB : Byt L) (hi : i ≤ 3) (w : World) (hL : Ls .u8 w a cap L) :
    Calls Tryz.prog 89 #[.slice a n cap, .int .i64 (i : Int)] w (StQ w i L) := by
  have HQ0 := Lib.hid (fun W (b : Below w.heap.size w W) => rqs_box W a cap n L hn hn2 hB (hL.below b))
  have HBY := Lib.hid hB
  clear hn hB hL
  go_enter Tryz.func89, Tryz.ntmps89
  go_upto_region 1 with (fail)
  obtain ⟨W1, hW1⟩ : ∃ W1, w.alloc (.cells #[.slice none 0 0, .slice none 0 0, .int .i64 0, .int .i64 0] 59) = W1 := ⟨_, rfl⟩
  have hb1 : Below w.heap.size w W1 := by rw [← hW1]; exact bl1 _ _
  have x0 : BoxC W1 w.heap.size #[.slice none 0 0, .slice none 0 0, .int .i64 0, .int .i64 0] 59 := by rw [← hW1]; exact BoxC.new _ _ _
  try rw [hW1]
  clear hW1
  have hr := HQ0.out _ hb1
  -- a box of no use stands for the variable's
  go_upto_region 2 with (fail)
  obtain ⟨B, hB⟩ : ∃ B, W1.heap.size = B := ⟨_, rfl⟩
  obtain ⟨W3, hW3⟩ : ∃ W3, W1.alloc (.cells #[.slice a n cap, .int .i64 0] 148) = W3 := ⟨_, rfl⟩
  have hb3 : Below W1.heap.size W1 W3 := by rw [← hW3]; exact bl1 _ _
  have HI2 := Lib.hid (show BxJ w B L #[.slice none 0 0, .slice none 0 0, .int .i64 0, .int .i64 0] 59 W3 from ⟨step_below hb1 hb3, x0.below hb3, by rw [← hB, ← hW3]; exact hr, by rw [← hB]; exact x0.lt⟩)
  try rw [hW3]
  rw [hB]
  clear hW3 hb3 hb1 x0 hr HQ0 hB
  go_wp2_with fail
  refine (smallb_law HI2.out.rd 3 (by decide)).mono ?_
  rintro r w4 ⟨z1, k1, R1, rfl, hr1, g1, y1, n1⟩
  have HI4 := Lib.hid (HI2.out.step g1 hr1)
  have HY1 := Lib.hid (And.intro y1 n1)
  have HG1 := Lib.hid g1
  clear hr1 g1 y1 n1 HI2
  go_wp2_with fail
  refine (bytesb_law HI4.out.rd 32 (by decide)).mono ?_
  rintro r w5 ⟨kb, kl, ka, kc, ker, Q2, rfl, hnl, hnl2, hnb, hno, hr1, g1, y1, n1, her⟩
  have HI5 := Lib.hid (HI4.out.step g1 hr1)
  have HKY := Lib.hid (And.intro y1 n1)
  have hsz : B + 1 ≤ w4.heap.size := HI4.out.rd.lt
  have HOB := Lib.hid (own_base hsz hno)
  have HKB := Lib.hid (And.intro hnl hnl2)
  clear hr1 g1 y1 n1 hnl hnl2 hnb hno her HI4 hsz
  cases k1 with
  | false =>
    have HX := Lib.hid (storP_1 hi (HY1.out.2 rfl))
    have HB8 := Lib.hid HI5.out.bel
    have BX := Lib.hid HI5.out.bx
    have zb := BX.out
    have zb0 := zb.cell 0
    have fb0 := zb.frozen 0
    have zb1 := zb.cell 1
    have fb1 := zb.frozen 1
    have zb2 := zb.cell 2
    have fb2 := zb.frozen 2
    have zb3 := zb.cell 3
    have fb3 := zb.frozen 3
    simp only [List.getElem?_toArray, List.getElem?_cons_zero, List.getElem?_cons_succ] at zb0 zb1 zb2 zb3
    have X9 := Lib.hid ((((zb.put 0 (.slice none 0 0)).put 1 (.slice none 0 0)).put 2 (.int .i64 0)).put 3 (.int .i64 0))
    have HB9 := Lib.hid ((((HB8.out.setCell (p := ⟨w.heap.size, 0, none⟩) (Nat.le_refl _) (.slice none 0 0)).setCell (p := ⟨w.heap.size, 1, none⟩) (Nat.le_refl _) (.slice none 0 0)).setCell (p := ⟨w.heap.size, 2, none⟩) (Nat.le_refl _) (.int .i64 0)).setCell (p := ⟨w.heap.size, 3, none⟩) (Nat.le_refl _) (.int .i64 0))
    clear zb
    go_wp2_with fail
    clear zb0 fb0 zb1 fb1 zb2 fb2 zb3 fb3
    generalize ((((w5.setCell ⟨w.heap.size, 0, none⟩ (.slice none 0 0)).setCell ⟨w.heap.size, 1, none⟩ (.slice none 0 0)).setCell ⟨w.heap.size, 2, none⟩ (.int .i64 0)).setCell ⟨w.heap.size, 3, none⟩ (.int .i64 0)) = W9 at *
    have q0 := X9.out.cell 0
    have q1 := X9.out.cell 1
    have q2 := X9.out.cell 2
    have q3 := X9.out.cell 3
    simp at q0 q1 q2 q3
    refine bodyPost_ret (v := .tuple #[.agg #[.slice none 0 0, .slice none 0 0, .int .i64 0, .int .i64 0], .bool false]) (by simp [results, Tryz.results89, go_sem, q0, q1, q2, q3]) rfl ?_
    exact StQ.no none none 0 0 [] [] 0 0 0 0 rfl rfl HX.out HB9.out
  | true =>
  obtain ⟨t, u1, hz1, ht⟩ := HY1.out.1 rfl
  have HU1 := Lib.hid u1
  clear u1
  subst hz1
  by_cases hke : ker = 0
  rotate_left
  · have hne : (ker != 0) = true := by simp [hke]
    have HX := Lib.hid (storP_2 (i := i) HU1.out (HKY.out.2 hke))
    clear hke
    have HB8 := Lib.hid HI5.out.bel
    have BX := Lib.hid HI5.out.bx
    have zb := BX.out
    have zb0 := zb.cell 0
    have fb0 := zb.frozen 0
    have zb1 := zb.cell 1
    have fb1 := zb.frozen 1
    have zb2 := zb.cell 2
    have fb2 := zb.frozen 2
    have zb3 := zb.cell 3
    have fb3 := zb.frozen 3
    simp only [List.getElem?_toArray, List.getElem?_cons_zero, List.getElem?_cons_succ] at zb0 zb1 zb2 zb3
    have X9 := Lib.hid ((((zb.put 0 (.slice none 0 0)).put 1 (.slice none 0 0)).put 2 (.int .i64 0)).put 3 (.int .i64 0))
    have HB9 := Lib.hid ((((HB8.out.setCell (p := ⟨w.heap.size, 0, none⟩) (Nat.le_refl _) (.slice none 0 0)).setCell (p := ⟨w.heap.size, 1, none⟩) (Nat.le_refl _) (.slice none 0 0)).setCell (p := ⟨w.heap.size, 2, none⟩) (Nat.le_refl _) (.int .i64 0)).setCell (p := ⟨w.heap.size, 3, none⟩) (Nat.le_refl _) (.int .i64 0))
    clear zb
    go_wp2_with fail
    clear zb0 fb0 zb1 fb1 zb2 fb2 zb3 fb3
    generalize ((((w5.setCell ⟨w.heap.size, 0, none⟩ (.slice none 0 0)).setCell ⟨w.heap.size, 1, none⟩ (.slice none 0 0)).setCell ⟨w.heap.size, 2, none⟩ (.int .i64 0)).setCell ⟨w.heap.size, 3, none⟩ (.int .i64 0)) = W9 at *
    have q0 := X9.out.cell 0
    have q1 := X9.out.cell 1
    have q2 := X9.out.cell 2
    have q3 := X9.out.cell 3
    simp at q0 q1 q2 q3
    refine bodyPost_ret (v := .tuple #[.agg #[.slice none 0 0, .slice none 0 0, .int .i64 0, .int .i64 0], .bool false]) (by simp [results, Tryz.results89, go_sem, q0, q1, q2, q3]) rfl ?_
    exact StQ.no none none 0 0 [] [] 0 0 0 0 rfl rfl HX.out HB9.out
  have HU2 := Lib.hid (HKY.out.1 hke)
  subst hke
  by_cases hti : t = i
  rotate_left
  · have hne : ((t : Int) != (i : Int)) = true := by simp; omega
    have HX := Lib.hid (storP_3 HU1.out hti)
    clear hti
    have HB8 := Lib.hid HI5.out.bel
    have BX := Lib.hid HI5.out.bx
    have zb := BX.out
    have zb0 := zb.cell 0
    have fb0 := zb.frozen 0
    have zb1 := zb.cell 1
    have fb1 := zb.frozen 1
    have zb2 := zb.cell 2
    have fb2 := zb.frozen 2
    have zb3 := zb.cell 3
    have fb3 := zb.frozen 3
    simp only [List.getElem?_toArray, List.getElem?_cons_zero, List.getElem?_cons_succ] at zb0 zb1 zb2 zb3
    have X9 := Lib.hid ((((zb.put 0 (.slice none 0 0)).put 1 (.slice none 0 0)).put 2 (.int .i64 0)).put 3 (.int .i64 0))
    have HB9 := Lib.hid ((((HB8.out.setCell (p := ⟨w.heap.size, 0, none⟩) (Nat.le_refl _) (.slice none 0 0)).setCell (p := ⟨w.heap.size, 1, none⟩) (Nat.le_refl _) (.slice none 0 0)).setCell (p := ⟨w.heap.size, 2, none⟩) (Nat.le_refl _) (.int .i64 0)).setCell (p := ⟨w.heap.size, 3, none⟩) (Nat.le_refl _) (.int .i64 0))
    clear zb
    go_wp2_with fail
    clear zb0 fb0 zb1 fb1 zb2 fb2 zb3 fb3
    generalize ((((w5.setCell ⟨w.heap.size, 0, none⟩ (.slice none 0 0)).setCell ⟨w.heap.size, 1, none⟩ (.slice none 0 0)).setCell ⟨w.heap.size, 2, none⟩ (.int .i64 0)).setCell ⟨w.heap.size, 3, none⟩ (.int .i64 0)) = W9 at *
    have q0 := X9.out.cell 0
    have q1 := X9.out.cell 1
    have q2 := X9.out.cell 2
    have q3 := X9.out.cell 3
    simp at q0 q1 q2 q3
    refine bodyPost_ret (v := .tuple #[.agg #[.slice none 0 0, .slice none 0 0, .int .i64 0, .int .i64 0], .bool false]) (by simp [results, Tryz.results89, go_sem, q0, q1, q2, q3]) rfl ?_
    exact StQ.no none none 0 0 [] [] 0 0 0 0 rfl rfl HX.out HB9.out
  subst hti
  have hne : ((t : Int) != (t : Int)) = false := by simp
  go_wp2_with fail
  refine (rowb_law HI5.out.rd).mono ?_
  rintro r w6 ⟨fs, fl, ra, rc, k6, Q3, rfl, hfl, hro, hr1, g1, y1, n1⟩
  have HI6 := Lib.hid (HI5.out.step g1 hr1)
  have HY6 := Lib.hid (And.intro y1 n1)
  have hsz : B + 1 ≤ w5.heap.size := HI5.out.rd.lt
  have HRO := Lib.hid (hro.base hsz)
  have HFL := Lib.hid hfl
  have HOB6 := Lib.hid (own_oth HOB.out (Nat.lt_succ_self B) g1)
  clear hr1 g1 y1 n1 hro hfl hsz HI5 HOB
  go_wp2_with fail
  refine (smallb_law HI6.out.rd 16777215 (by decide)).mono ?_
  rintro r w7 ⟨z2, k2, R2, rfl, hr1, g1, y1, n1⟩
  have HI7 := Lib.hid (HI6.out.step g1 hr1)
  have HY2 := Lib.hid (And.intro y1 n1)
  have HG2 := Lib.hid g1
  clear hr1 g1 y1 n1 HI6
  go_wp2_with fail
  refine (smallb_law HI7.out.rd 2147483647 (by decide)).mono ?_
  rintro r w8 ⟨z3, k3, R3, rfl, hr1, g1, y1, n1⟩
  have HI8 := Lib.hid (HI7.out.step g1 hr1)
  have HY3 := Lib.hid (And.intro y1 n1)
  have HG3 := Lib.hid g1
  clear hr1 g1 y1 n1 HI7
  have HOB8 := Lib.hid (own_oth (own_oth HOB6.out (Nat.lt_succ_self B) HG2.out) (Nat.lt_succ_self B) HG3.out)
  have HRO8 := Lib.hid ((HRO.out.oth (Nat.lt_succ_self B) HG2.out).oth (Nat.lt_succ_self B) HG3.out)
  clear HOB6 HRO HG2 HG3
  obtain ⟨RR, hR1, hR2, hR3⟩ := HRO8.out
  have hrl : RR.length = fl := by have := congrArg List.length hR1; rw [List.length_map] at this; rw [this, HFL.out]
  rw [HFL.out] at hR2
  have HRR := Lib.hid (And.intro hR1 (And.intro hR2 (And.intro hR3 hrl)))
  clear hR1 hR2 hR3 hrl
  cases k6 with
  | false =>
    have HX := Lib.hid (storP_4 (i := t) HU1.out HU2.out (HY6.out.2 rfl))
    have HB8 := Lib.hid HI8.out.bel
    have BX := Lib.hid HI8.out.bx
    have zb := BX.out
    have zb0 := zb.cell 0
    have fb0 := zb.frozen 0
    have zb1 := zb.cell 1
    have fb1 := zb.frozen 1
    have zb2 := zb.cell 2
    have fb2 := zb.frozen 2
    have zb3 := zb.cell 3
    have fb3 := zb.frozen 3
    simp only [List.getElem?_toArray, List.getElem?_cons_zero, List.getElem?_cons_succ] at zb0 zb1 zb2 zb3
    have X9 := Lib.hid ((((zb.put 0 (.slice ka kl kc)).put 1 (.slice ra fl rc)).put 2 (.int .i64 z2)).put 3 (.int .i64 z3))
    have HB9 := Lib.hid ((((HB8.out.setCell (p := ⟨w.heap.size, 0, none⟩) (Nat.le_refl _) (.slice ka kl kc)).setCell (p := ⟨w.heap.size, 1, none⟩) (Nat.le_refl _) (.slice ra fl rc)).setCell (p := ⟨w.heap.size, 2, none⟩) (Nat.le_refl _) (.int .i64 z2)).setCell (p := ⟨w.heap.size, 3, none⟩) (Nat.le_refl _) (.int .i64 z3))
    clear zb
    go_wp2_with fail
    clear zb0 fb0 zb1 fb1 zb2 fb2 zb3 fb3
    generalize ((((w8.setCell ⟨w.heap.size, 0, none⟩ (.slice ka kl kc)).setCell ⟨w.heap.size, 1, none⟩ (.slice ra fl rc)).setCell ⟨w.heap.size, 2, none⟩ (.int .i64 z2)).setCell ⟨w.heap.size, 3, none⟩ (.int .i64 z3)) = W9 at *
    have q0 := X9.out.cell 0
    have q1 := X9.out.cell 1
    have q2 := X9.out.cell 2
    have q3 := X9.out.cell 3
    simp at q0 q1 q2 q3
    refine bodyPost_ret (v := .tuple #[.agg #[.slice ka kl kc, .slice ra fl rc, .int .i64 z2, .int .i64 z3], .bool false]) (by simp [results, Tryz.results89, go_sem, q0, q1, q2, q3]) rfl ?_
    exact StQ.no ka ra kc rc kb RR kl fl z2 z3 HKB.out.1 HRR.out.2.2.2 HX.out HB9.out
  | true =>
  have HU3 := Lib.hid (HY6.out.1 rfl)
  cases k2 with
  | false =>
    have HX := Lib.hid (storP_5 (i := t) HU1.out HU2.out HU3.out (HY2.out.2 rfl))
    have HB8 := Lib.hid HI8.out.bel
    have BX := Lib.hid HI8.out.bx
    have zb := BX.out
    have zb0 := zb.cell 0
    have fb0 := zb.frozen 0
    have zb1 := zb.cell 1
    have fb1 := zb.frozen 1
    have zb2 := zb.cell 2
    have fb2 := zb.frozen 2
    have zb3 := zb.cell 3
    have fb3 := zb.frozen 3
    simp only [List.getElem?_toArray, List.getElem?_cons_zero, List.getElem?_cons_succ] at zb0 zb1 zb2 zb3
    have X9 := Lib.hid ((((zb.put 0 (.slice ka kl kc)).put 1 (.slice ra fl rc)).put 2 (.int .i64 z2)).put 3 (.int .i64 z3))
    have HB9 := Lib.hid ((((HB8.out.setCell (p := ⟨w.heap.size, 0, none⟩) (Nat.le_refl _) (.slice ka kl kc)).setCell (p := ⟨w.heap.size, 1, none⟩) (Nat.le_refl _) (.slice ra fl rc)).setCell (p := ⟨w.heap.size, 2, none⟩) (Nat.le_refl _) (.int .i64 z2)).setCell (p := ⟨w.heap.size, 3, none⟩) (Nat.le_refl _) (.int .i64 z3))
    clear zb
    go_wp2_with fail
    clear zb0 fb0 zb1 fb1 zb2 fb2 zb3 fb3
    generalize ((((w8.setCell ⟨w.heap.size, 0, none⟩ (.slice ka kl kc)).setCell ⟨w.heap.size, 1, none⟩ (.slice ra fl rc)).setCell ⟨w.heap.size, 2, none⟩ (.int .i64 z2)).setCell ⟨w.heap.size, 3, none⟩ (.int .i64 z3)) = W9 at *
    have q0 := X9.out.cell 0
    have q1 := X9.out.cell 1
    have q2 := X9.out.cell 2
    have q3 := X9.out.cell 3
    simp at q0 q1 q2 q3
    refine bodyPost_ret (v := .tuple #[.agg #[.slice ka kl kc, .slice ra fl rc, .int .i64 z2, .int .i64 z3], .bool false]) (by simp [results, Tryz.results89, go_sem, q0, q1, q2, q3]) rfl ?_
    exact StQ.no ka ra kc rc kb RR kl fl z2 z3 HKB.out.1 HRR.out.2.2.2 HX.out HB9.out
  | true =>
  obtain ⟨e, u2, hz2, he⟩ := HY2.out.1 rfl
  have HU4 := Lib.hid u2
  clear u2
  subst hz2
  cases k3 with
  | false =>
    have HX := Lib.hid (storP_6 (i := t) HU1.out HU2.out HU3.out HU4.out (HY3.out.2 rfl))
    have HB8 := Lib.hid HI8.out.bel
    have BX := Lib.hid HI8.out.bx
    have zb := BX.out
    have zb0 := zb.cell 0
    have fb0 := zb.frozen 0
    have zb1 := zb.cell 1
    have fb1 := zb.frozen 1
    have zb2 := zb.cell 2
    have fb2 := zb.frozen 2
    have zb3 := zb.cell 3
    have fb3 := zb.frozen 3
    simp only [List.getElem?_toArray, List.getElem?_cons_zero, List.getElem?_cons_succ] at zb0 zb1 zb2 zb3
    have X9 := Lib.hid ((((zb.put 0 (.slice ka kl kc)).put 1 (.slice ra fl rc)).put 2 (.int .i64 (e : Int))).put 3 (.int .i64 z3))
    have HB9 := Lib.hid ((((HB8.out.setCell (p := ⟨w.heap.size, 0, none⟩) (Nat.le_refl _) (.slice ka kl kc)).setCell (p := ⟨w.heap.size, 1, none⟩) (Nat.le_refl _) (.slice ra fl rc)).setCell (p := ⟨w.heap.size, 2, none⟩) (Nat.le_refl _) (.int .i64 (e : Int))).setCell (p := ⟨w.heap.size, 3, none⟩) (Nat.le_refl _) (.int .i64 z3))
    clear zb
    go_wp2_with fail
    clear zb0 fb0 zb1 fb1 zb2 fb2 zb3 fb3
    generalize ((((w8.setCell ⟨w.heap.size, 0, none⟩ (.slice ka kl kc)).setCell ⟨w.heap.size, 1, none⟩ (.slice ra fl rc)).setCell ⟨w.heap.size, 2, none⟩ (.int .i64 (e : Int))).setCell ⟨w.heap.size, 3, none⟩ (.int .i64 z3)) = W9 at *
    have q0 := X9.out.cell 0
    have q1 := X9.out.cell 1
    have q2 := X9.out.cell 2
    have q3 := X9.out.cell 3
    simp at q0 q1 q2 q3
    refine bodyPost_ret (v := .tuple #[.agg #[.slice ka kl kc, .slice ra fl rc, .int .i64 (e : Int), .int .i64 z3], .bool false]) (by simp [results, Tryz.results89, go_sem, q0, q1, q2, q3]) rfl ?_
    exact StQ.no ka ra kc rc kb RR kl fl (e : Int) z3 HKB.out.1 HRR.out.2.2.2 HX.out HB9.out
  | true =>
  obtain ⟨s, u3, hz3, hs⟩ := HY3.out.1 rfl
  have HU5 := Lib.hid u3
  clear u3
  subst hz3
  obtain ⟨m, hm⟩ : ∃ m, R3.length = m := ⟨_, rfl⟩
  have HLF := Lib.hid (leftq_law HI8.out.rd m hm)
  have HM := Lib.hid hm
  clear hm
  by_cases hm0 : m = 0
  · have d2 : ((m : Int) == 0) = true := by simp [hm0]
    have d2' : (m == 0) = true := by simp [hm0]
    have h0 : R3 = [] := List.length_eq_zero_iff.1 (HM.out.trans hm0)
    have HX := Lib.hid (show storP t L = some ⟨t, kb, fs, e, s⟩ from storP_8 HU1.out HU2.out HU3.out HU4.out (h0 ▸ HU5.out))
    clear hm0 h0
    go_wp2_with fail
    refine HLF.out.mono ?_
    rintro r w9 ⟨rfl, hb9⟩
    have HI9 := Lib.hid (HI8.out.below hb9)
    have HOB9 := Lib.hid (own_below HOB8.out hb9)
    have HRR9 := Lib.hid (And.intro (own_below HRR.out.2.1 hb9) (fun q hq => own_below (HRR.out.2.2.1 q hq) hb9))
    have HB8 := Lib.hid HI9.out.bel
    have BX := Lib.hid HI9.out.bx
    clear hb9
    have HOW9 := Lib.hid (show StOw w9 (B + 1) ⟨ka, kc, kb, ra, rc, RR, (e : Int), (s : Int)⟩ from ⟨by simp, by simp, by simp only [HKB.out.1]; exact HOB9.out, by simp only [HRR.out.2.2.2]; exact HRR9.out.1, HRR9.out.2⟩)
    have HDL := Lib.hid (show w.heap.size < B + 1 by have := HI9.out.l1; omega)
    have HPZ := Lib.hid (HOW9.out.oth HDL.out (oth_trans (oth_set w9 w.heap.size 0 (.slice ka kl kc)) (oth_trans (oth_set _ _ 1 (.slice ra fl rc)) (oth_trans (oth_set _ _ 2 (.int .i64 (e : Int))) (oth_set _ _ 3 (.int .i64 (s : Int)))))))
    have zb := BX.out
    have zb0 := zb.cell 0
    have fb0 := zb.frozen 0
    have zb1 := zb.cell 1
    have fb1 := zb.frozen 1
    have zb2 := zb.cell 2
    have fb2 := zb.frozen 2
    have zb3 := zb.cell 3
    have fb3 := zb.frozen 3
    simp only [List.getElem?_toArray, List.getElem?_cons_zero, List.getElem?_cons_succ] at zb0 zb1 zb2 zb3
    have X9 := Lib.hid ((((zb.put 0 (.slice ka kl kc)).put 1 (.slice ra fl rc)).put 2 (.int .i64 (e : Int))).put 3 (.int .i64 (s : Int)))
    have HB9 := Lib.hid ((((HB8.out.setCell (p := ⟨w.heap.size, 0, none⟩) (Nat.le_refl _) (.slice ka kl kc)).setCell (p := ⟨w.heap.size, 1, none⟩) (Nat.le_refl _) (.slice ra fl rc)).setCell (p := ⟨w.heap.size, 2, none⟩) (Nat.le_refl _) (.int .i64 (e : Int))).setCell (p := ⟨w.heap.size, 3, none⟩) (Nat.le_refl _) (.int .i64 (s : Int)))
    clear zb
    go_wp2_with fail
    clear zb0 fb0 zb1 fb1 zb2 fb2 zb3 fb3
    generalize ((((w9.setCell ⟨w.heap.size, 0, none⟩ (.slice ka kl kc)).setCell ⟨w.heap.size, 1, none⟩ (.slice ra fl rc)).setCell ⟨w.heap.size, 2, none⟩ (.int .i64 (e : Int))).setCell ⟨w.heap.size, 3, none⟩ (.int .i64 (s : Int))) = W9 at *
    have q0 := X9.out.cell 0
    have q1 := X9.out.cell 1
    have q2 := X9.out.cell 2
    have q3 := X9.out.cell 3
    simp at q0 q1 q2 q3
    refine bodyPost_ret (v := .tuple #[.agg #[.slice ka kl kc, .slice ra fl rc, .int .i64 (e : Int), .int .i64 (s : Int)], .bool true]) (by simp [results, Tryz.results89, go_sem, q0, q1, q2, q3]) rfl ?_
    exact ⟨⟨⟨ka, kc, kb, ra, rc, RR, (e : Int), (s : Int)⟩, true, by simp only [StP.v, HKB.out.1, HRR.out.2.2.2], fun _ => ⟨HPZ.out.base (Nat.le_of_lt HDL.out), _, HX.out, by unfold plC stC; simp only [HRR.out.1]⟩, fun h => (by cases h)⟩, HB9.out⟩
  · have d2 : ((m : Int) == 0) = false := by simp [hm0]
    have d2' : (m == 0) = false := by simp [hm0]
    have HX := Lib.hid (storP_7 (i := t) HU1.out HU2.out HU3.out HU4.out HU5.out (fun h => hm0 (by rw [← HM.out, h]; rfl)))
    clear hm0
    go_wp2_with fail
    refine HLF.out.mono ?_
    rintro r w9 ⟨rfl, hb9⟩
    have HI9 := Lib.hid (HI8.out.below hb9)
    have HOB9 := Lib.hid (own_below HOB8.out hb9)
    have HRR9 := Lib.hid (And.intro (own_below HRR.out.2.1 hb9) (fun q hq => own_below (HRR.out.2.2.1 q hq) hb9))
    have HB8 := Lib.hid HI9.out.bel
    have BX := Lib.hid HI9.out.bx
    clear hb9
    have zb := BX.out
    have zb0 := zb.cell 0
    have fb0 := zb.frozen 0
    have zb1 := zb.cell 1
    have fb1 := zb.frozen 1
    have zb2 := zb.cell 2
    have fb2 := zb.frozen 2
    have zb3 := zb.cell 3
    have fb3 := zb.frozen 3
    simp only [List.getElem?_toArray, List.getElem?_cons_zero, List.getElem?_cons_succ] at zb0 zb1 zb2 zb3
    have X9 := Lib.hid ((((zb.put 0 (.slice ka kl kc)).put 1 (.slice ra fl rc)).put 2 (.int .i64 (e : Int))).put 3 (.int .i64 (s : Int)))
    have HB9 := Lib.hid ((((HB8.out.setCell (p := ⟨w.heap.size, 0, none⟩) (Nat.le_refl _) (.slice ka kl kc)).setCell (p := ⟨w.heap.size, 1, none⟩) (Nat.le_refl _) (.slice ra fl rc)).setCell (p := ⟨w.heap.size, 2, none⟩) (Nat.le_refl _) (.int .i64 (e : Int))).setCell (p := ⟨w.heap.size, 3, none⟩) (Nat.le_refl _) (.int .i64 (s : Int)))
    clear zb
    go_wp2_with fail
    clear zb0 fb0 zb1 fb1 zb2 fb2 zb3 fb3
    generalize ((((w9.setCell ⟨w.heap.size, 0, none⟩ (.slice ka kl kc)).setCell ⟨w.heap.size, 1, none⟩ (.slice ra fl rc)).setCell ⟨w.heap.size, 2, none⟩ (.int .i64 (e : Int))).setCell ⟨w.heap.size, 3, none⟩ (.int .i64 (s : Int))) = W9 at *
    have q0 := X9.out.cell 0
    have q1 := X9.out.cell 1
    have q2 := X9.out.cell 2
    have q3 := X9.out.cell 3
    simp at q0 q1 q2 q3
    refine bodyPost_ret (v := .tuple #[.agg #[.slice ka kl kc, .slice ra fl rc, .int .i64 (e : Int), .int .i64 (s : Int)], .bool false]) (by simp [results, Tryz.results89, go_sem, q0, q1, q2, q3]) rfl ?_
    exact StQ.no ka ra kc rc kb RR kl fl (e : Int) (s : Int) HKB.out.1 HRR.out.2.2.2 HX.out HB9.out
theorem BoxC.far {W W' : World} {B N : Nat} {cs : Array Value} {t : TypeId} (h : BoxC W B cs t) (b : Below N W W') (hB : B < N) : BoxC W' B cs t := (b.block B hB).trans h
theorem BxI.far {w W W' : World} {B D : Nat} {R : List Int} {zs cs : Array Value} {t : TypeId} (h : BxI w B D R zs cs t W) (b : Below (D + 1) W W') : BxI w B D R zs cs t W' :=
  ⟨h.bel.trans (b.mono (by have := h.l1; have := h.l2; omega)), h.bx.far b (by have := h.l1; have := h.l2; omega), h.bd.far b (by omega), h.rd.below1 (b.mono (by have := h.l2; omega)), h.l1, h.l2⟩
end Go.Proofs.YtglkndoghnblcaaGreat
namespace Go.Proofs.YtglkndoghnblcaaGreat
open Go.ChangeShapes Go.WideShapes Go.ChangeAt Go.RowKit Go.Shelf
set_option linter.unusedVariables false
set_option linter.unusedSimpArgs false
def szGo : List P1 → Nat → Nat
  | [], s => s
  | p :: r, s => if s < 1048576 then szGo r (s + min p.bs.length 1048576) else s
def szF (R : List P1) : Nat := szGo R R.length
theorem szGo_ge : ∀ (R : List P1) (s : Nat), s ≤ szGo R s
  | [], s => Nat.le_refl _
  | p :: r, s => by
    unfold szGo
    split
    · have := szGo_ge r (s + min p.bs.length 1048576); omega
    · omega
theorem szGo_le : ∀ (R : List P1) (s m : Nat), s ≤ m + 2097152 → szGo R s ≤ m + 2097152
  | [], s, m, h => h
  | p :: r, s, m, h => by
    unfold szGo
    split
    · exact szGo_le r _ m (by omega)
    · exact h
theorem szF_ge (R : List P1) : R.length ≤ szF R := szGo_ge R _
theorem szF_le (R : List P1) : szF R ≤ R.length + 2097152 := szGo_le R _ _ (by omega)
theorem szGo_stop (R : List P1) (s : Nat) (h : ¬ s < 1048576) : szGo R s = s := by
  cases R with
  | nil => rfl
  | cons p r => unfold szGo; rw [if_neg h]
theorem szGo_step {R : List P1} {k s : Nat} {p : P1} (hp : R[k]? = some p) (h : s < 1048576) : szGo (R.drop k) s = szGo (R.drop (k + 1)) (s + min p.bs.length 1048576) := by
  obtain ⟨hk, e⟩ := List.getElem?_eq_some_iff.1 hp
  rw [List.drop_eq_getElem_cons hk, szGo, if_pos h, e]
set_option maxRecDepth 100000 in
set_option maxHeartbeats 1000000 in
theorem sizef_law (a : Option Addr) (R : List P1) (n cap : Nat) (hn : R.length = n) (w : World) (hR : RdR w a R) :
    Calls Tryz.prog 28 #[.slice a n cap] w fun r w' => r = .returned (.int .i64 (szF R : Int)) ∧ w' = w := by
  have HR := Lib.hid hR
  have HN := Lib.hid hn
  obtain ⟨ans, hans⟩ : ∃ x, szF R = x := ⟨_, rfl⟩
  have HA := Lib.hid (show szGo R n = ans by rw [← hans, ← hn]; rfl)
  rw [hans]
  clear hR hn hans
  go_enter Tryz.func28, Tryz.ntmps28
  go_wp2_with fail
  go_loopw [3, 4] (fun x i wr => ∃ k s : Nat, k ≤ n ∧ i = .int .i64 k ∧ x = .int .i64 s ∧ n ≤ s ∧ Hid (szGo (R.drop k) s = ans) ∧ w = wr) (fun _ i _ => n - (intOf i).toNat)
  case atStart => exact ⟨0, n, by omega, rfl, rfl, by omega, Lib.hid (by simpa using HA.out), rfl⟩
  case round =>
    obtain ⟨k, s, hk, rfl, rfl, hns, HS, rfl⟩ := hrel
    by_cases hlt : k < n
    · have hkl : (k : Int) < (n : Int) := by omega
      by_cases hs2 : s < 1048576
      · have hsl : (s : Int) < 1048576 := by omega
        have hs9 : (s : Int) ≤ 1048576 := by omega
        obtain ⟨p, hp⟩ : ∃ p, R[k]? = some p := ⟨_, List.getElem?_eq_getElem (by rw [HN.out]; exact hlt)⟩
        obtain ⟨b1, o1, e1, c1, l1⟩ := HR.out k p hp
        subst e1
        have c2 : w.cell? ⟨b1, o1 + k, none⟩ = some (.slice p.ad p.bs.length p.cap) := c1
        have HST := Lib.hid (show szGo (R.drop (k + 1)) (s + min p.bs.length 1048576) = ans by rw [← szGo_step hp hs2]; exact HS.out)
        obtain ⟨m, hm⟩ : ∃ m, p.bs.length = m := ⟨_, rfl⟩
        rw [hm] at c2 HST
        clear c1 hp hm l1
        by_cases hm2 : m < 1048576
        · have hml : (m : Int) < 1048576 := by omega
          have HX := Lib.hid (show szGo (R.drop (k + 1)) (s + m) = ans by rw [← HST.out]; congr 1; omega)
          go_wp2_with fail
          go_roundw
          case rel => exact ⟨k + 1, s + m, by omega, by go_num, by go_num, by omega, HX, trivial⟩
          case measure => simp [intOf]; omega
        · have hml : ¬ (m : Int) < 1048576 := by omega
          have HX := Lib.hid (show szGo (R.drop (k + 1)) (s + 1048576) = ans by rw [← HST.out]; congr 1; omega)
          go_wp2_with fail
          go_roundw
          case rel => exact ⟨k + 1, s + 1048576, by omega, by go_num, by go_num, by omega, HX, trivial⟩
          case measure => simp [intOf]; omega
      · have hsl : ¬ (s : Int) < 1048576 := by omega
        have HE := Lib.hid (show ans = s by rw [← HS.out, szGo_stop _ _ hs2])
        go_wp2_with fail
        go_ret
        exact ⟨ret_int (by rw [HE.out]), rfl⟩
    · have hkl : ¬ (k : Int) < (n : Int) := by omega
      have HE := Lib.hid (show ans = s by rw [← HS.out, List.drop_of_length_le (by rw [HN.out]; omega)]; rfl)
      go_wp2_with fail
      go_ret
      exact ⟨ret_int (by rw [HE.out]), rfl⟩
end Go.Proofs.YtglkndoghnblcaaGreat
namespace Go.Proofs.YtglkndoghnblcaaGreat
open Go.ChangeShapes Go.WideShapes Go.ChangeAt Go.RowKit Go.Deep
set_option linter.unusedVariables false
set_option linter.unusedSimpArgs false
theorem list_of {α : Type} {p : Nat → α → Prop} : ∀ m, (∀ i, i < m → ∃ x, p i x) → ∃ L : List α, L.length = m ∧ ∀ i x, L[i]? = some x → p i x
  | 0, _ => ⟨[], rfl, fun i x h => by simp at h⟩
  | m + 1, h => by
    obtain ⟨L, hl, hp⟩ := list_of m fun i hi => h i (by omega)
    obtain ⟨x, hx⟩ := h m (by omega)
    refine ⟨L ++ [x], by simp [hl], fun i y hy => ?_⟩
    by_cases e : i < L.length
    · rw [List.getElem?_append_left e] at hy
      exact hp i y hy
    · have hi := (List.getElem?_eq_some_iff.1 hy).1
      simp at hi
      obtain rfl : i = m := by omega
      rw [List.getElem?_append_right (by omega)] at hy
      simp [hl] at hy
      rw [← hy]; exact hx
section
variable {H : Type} {enc : TypeId × Value → H} {w : World} {base : Nat} {held : Bool}
theorem weights_all {P : Program} {e : TypeId} {d : DataW H} {n : Nat} (hn : n ∈ d.weights P e) : ∀ {l : List (DataW H)}, d ∈ l → n ∈ DataW.weightsAll P e l
  | [], h => by simp at h
  | x :: r, h => by
    simp only [DataW.weightsAll, List.mem_append]
    rcases List.mem_cons.1 h with rfl | h
    · exact .inl hn
    · exact .inr (weights_all hn h)
/-- What a slice that is read within the reach says of its length, and of its elements. -/
theorem slice_sz {t e : TypeId} (ht : Tryz.prog.underlying t = some (.slice e)) (hb : 1 ≤ Tryz.prog.bytesOf e) {len k : Nat} {D : Nat → DataW H} (hsz : ∀ n ∈ (DataW.slice ((List.range len).map D) ((List.range k).map fun j => D (len + j))).weights Tryz.prog t, n ≤ reachBytes) :
    len ≤ 140737488355328 ∧ ∀ i, i < len → ∀ n ∈ (D i).weights Tryz.prog e, n ≤ reachBytes := by
  constructor
  · have h1 := hsz ((((List.range len).map D).length + ((List.range k).map fun j => D (len + j)).length) * Tryz.prog.bytesOf e) (by simp only [DataW.weights, ht]; exact List.mem_cons_self ..)
    simp only [List.length_map, List.length_range, reachBytes] at h1
    have : (len + k) * 1 ≤ (len + k) * Tryz.prog.bytesOf e := Nat.mul_le_mul_left _ hb
    omega
  · intro i hi n hn
    refine hsz n ?_
    simp only [DataW.weights, ht, List.mem_cons, List.mem_append]
    exact .inr (.inl (weights_all hn (List.mem_map.2 ⟨i, List.mem_range.2 hi, rfl⟩)))
/-- A row that came in. -/
theorem open_row {d : DataW H} {ps : List MemPlace} {a : Option Addr} {len cap : Nat} (hd : DataW.Trod enc Tryz.prog w base (fun _ => true) held 49 (.slice a len cap) d ps) :
    ∃ R : List P1, R.length = len ∧ RdR w a R ∧ ∀ p ∈ R, Byt p.bs := by
  obtain ⟨fuel, hf⟩ := hd
  rcases Deep.open_int_rows Tryz.underlying49 Tryz.underlying22 Tryz.underlying5 (by kernel_rfl) (by kernel_rfl) hf with ⟨hcs, _⟩ | ⟨x, l, c, A, L, C, Z, hcs, hb, hl, hm, hx, hr⟩
  · simp [Value.cells] at hcs
    obtain ⟨rfl, rfl, rfl⟩ := hcs
    exact ⟨[], rfl, RdR.nil _ _, fun p hp => by simp at hp⟩
  · simp [Value.cells] at hcs
    obtain ⟨rfl, rfl, rfl⟩ := hcs
    refine ⟨(List.range len).map fun r => ⟨A r, C r, (Z r).take (L r)⟩, by simp, fun k p hp => ?_, fun p hp => ?_⟩
    · have hk : k < len := by have := (List.getElem?_eq_some_iff.1 hp).1; simpa using this
      have hp' : p = ⟨A k, C k, (Z k).take (L k)⟩ := by
        simp [hk] at hp
        exact hp.symm
      subst hp'
      obtain ⟨hc, hLC, hCm, hZ, hwf, hnone, hsome⟩ := hr k (by omega)
      obtain ⟨b, off, spot⟩ := x
      obtain ⟨hc0, _⟩ := hr 0 (by omega)
      have hspot : spot = none := by simpa [Addr.add] using World.cell?_spot hc0
      subst hspot
      rw [addr_add] at hc
      have hlen : ((Z k).take (L k)).length = L k := by rw [List.length_take, hZ]; omega
      refine ⟨b, off, rfl, ?_, ⟨fun j hj => ?_, fun e => ?_, by simp only; rw [hlen]; exact hLC⟩⟩
      · rw [hc, P1.v, hlen]
      · simp only at hj ⊢
        rw [hlen] at hj
        cases hA : A k with
        | none => have := hnone hA; omega
        | some a' =>
          obtain ⟨_, hcell⟩ := hsome a' hA
          obtain ⟨b2, o2, spot2⟩ := a'
          have hc2 := hcell 0 (by omega)
          have hspot2 : spot2 = none := by simpa [Addr.add] using World.cell?_spot hc2
          subst hspot2
          refine ⟨b2, o2, rfl, ?_⟩
          have := hcell j (by omega)
          rw [addr_add] at this
          rw [this]
          simp [List.getD, List.getElem?_take, hj]
      · simp only at e ⊢
        have := hnone e
        exact ⟨List.length_eq_zero_iff.1 (by rw [hlen]; omega), this⟩
    · obtain ⟨r, hr2, rfl⟩ := List.mem_map.1 hp
      have hrl : r < len := by simpa using hr2
      obtain ⟨_, _, _, _, hwf, _⟩ := hr r (by omega)
      intro y hy
      have := hwf y (List.mem_of_mem_take hy)
      simpa [Lit.wf, IntKind.min, IntKind.max, IntKind.signed, IntKind.bits] using this
theorem op_bytes {m : Nat} {u : Value} {x : DataW H × List MemPlace} (h : DataW.trod enc Tryz.prog w base (fun _ => true) held m 22 [u] = some x) :
    ∃ (a : Option Addr) (L : List Int) (n c : Nat), u = .slice a n c ∧ L.length = n ∧ Byt L ∧ Ls .u8 w a c L := by
  rcases open_ints Tryz.underlying22 Tryz.underlying5 (by kernel_rfl) h with ⟨hcs, _⟩ | ⟨y, l, c, zs, hcs, _, hl, hm, hz, hx, hcell, hwz⟩
  · simp only [List.cons.injEq, and_true] at hcs
    exact ⟨none, [], 0, 0, hcs, rfl, fun x hx => by simp at hx, Ls.nul _ _⟩
  · simp only [List.cons.injEq, and_true] at hcs
    have hr : IsRow .u8 w (some y) l c zs := .inr ⟨_, rfl, hl, hm, by simpa using hz, hcell, hwz⟩
    exact ⟨some y, zs.take l, l, c, hcs, hr.ls.2, hr.byt, hr.ls.1⟩
theorem op_row {m : Nat} {u : Value} {x : DataW H × List MemPlace} (h : DataW.trod enc Tryz.prog w base (fun _ => true) held m 49 [u] = some x) (hsz : ∀ n ∈ x.1.weights Tryz.prog 49, n ≤ reachBytes) :
    ∃ (a : Option Addr) (R : List P1) (n c : Nat), u = .slice a n c ∧ R.length = n ∧ RdR w a R ∧ (∀ p ∈ R, Byt p.bs) ∧ n ≤ 140737488355328 := by
  rcases open_slice Tryz.underlying49 h with ⟨hcs, _⟩ | ⟨y, l, c, k, _, D, Pl, hcs, _, hl, hm, _, rfl, _⟩
  · simp only [List.cons.injEq, and_true] at hcs
    subst hcs
    obtain ⟨R, h1, h2, h3⟩ := open_row (d := x.1) (ps := x.2) ⟨m, by simpa [Value.cells] using h⟩
    exact ⟨none, R, 0, 0, rfl, h1, h2, h3, Nat.zero_le _⟩
  · simp only [List.cons.injEq, and_true] at hcs
    subst hcs
    obtain ⟨R, h1, h2, h3⟩ := open_row ⟨m, by simpa [Value.cells] using h⟩
    exact ⟨some y, R, l, c, rfl, h1, h2, h3, (slice_sz Tryz.underlying49 (of_decide_eq_true (by kernel_rfl)) hsz).1⟩

theorem c1_36 : Tryz.prog.cellsOf 36 = 2 := by kernel_rfl
theorem c1_22 : Tryz.prog.cellsOf 22 = 1 := by kernel_rfl
theorem c1_49 : Tryz.prog.cellsOf 49 = 1 := by kernel_rfl
theorem c1_2 : Tryz.prog.cellsOf 2 = 1 := by kernel_rfl
end
end Go.Proofs.YtglkndoghnblcaaGreat
namespace Go.Proofs.YtglkndoghnblcaaGreat
open Go.ChangeShapes Go.WideShapes Go.ChangeAt Go.RowKit
set_option linter.unusedVariables false
set_option linter.unusedSimpArgs false
/-- A write that was copied, owned. -/
structure WtOx (w : World) (base : Nat) (p : WtP) : Prop where
  key : w.ownsRow base 5 1 (.slice p.ka p.key.length p.kc) p.key.length (iv .u8 p.key)
  row : w.ownsRow base 22 1 (.slice p.ra p.R.length p.rc) p.R.length (p.R.map P1.v)
  all : ∀ q ∈ p.R, w.ownsRow base 5 1 q.v q.bs.length (iv .u8 q.bs)
theorem map_at {α β : Type} {f : α → β} {xs ys : List α} (h : ys.map f = xs.map f) {k : Nat} {x : α} (hx : xs[k]? = some x) : ∃ y, ys[k]? = some y ∧ f y = f x := by
  have h1 : (ys.map f)[k]? = some (f x) := by rw [h, List.getElem?_map, hx]; rfl
  rw [List.getElem?_map] at h1
  cases hy : ys[k]? with
  | none => rw [hy] at h1; cases h1
  | some y => rw [hy] at h1; exact ⟨y, rfl, by simpa using h1⟩
def tbC (t : TbP) : List C4 := t.xs.map stC
theorem neq_str (s : ByteArray) (W : World) : (binOp .neq 9 (.string s) (.string s)).run Tryz.prog W = .ok (.bool false) W := by
  go_simp
theorem neq_tid (e s : Int) (W : World) : (binOp .neq 36 (.agg #[.int .i64 e, .int .i64 s]) (.agg #[.int .i64 e, .int .i64 s])).run Tryz.prog W = .ok (.bool false) W := by
  go_simp
set_option maxRecDepth 100000 in
set_option maxHeartbeats 4000000 in
/-- The document's SameTables (33), where both have the same. -/
theorem stabs_law (a b : Option Addr) (A B : List TbP) (n ca cb : Nat) (hn : A.length = n) (hn2 : n ≤ 1000000) (hE : A.map tbC = B.map tbC) (hl : ∀ t ∈ A, t.xs.length ≤ 1000000 ∧ ∀ x ∈ t.xs, x.R.length ≤ 1000000) (w : World) (hRA : TbsR w a A) (hRB : TbsR w b B) :
    Calls Tryz.prog 33 #[.slice a n ca, .slice b n cb] w fun r w' => r = .returned (.bool true) ∧ Below w.heap.size w w' := by
  have HR := Lib.hid (And.intro hRA hRB)
  have HN := Lib.hid (And.intro hn (And.intro hE hl))
  clear hn hE hl hRA hRB
  go_enter Tryz.func33, Tryz.ntmps33
  have e0 : ((n : Int) != (n : Int)) = false := by simp
  go_wp2_with fail
  go_loopw [5, 6, 7, 8] (fun i q1 q2 q3 wr => ∃ k : Nat, k ≤ n ∧ i = .int .i64 (k : Int) ∧ Hid (Below w.heap.size w wr)) (fun i _ _ _ _ => n - (intOf i).toNat)
  case atStart => exact ⟨0, Nat.zero_le _, rfl, Lib.hid (Below.refl _ _)⟩
  case round =>
    obtain ⟨k, hk, rfl, HBW⟩ := hrel
    by_cases hlt : k < n
    · have d1 : (k : Int) < (n : Int) := by omega
      obtain ⟨t, ht⟩ : ∃ t, A[k]? = some t := ⟨_, List.getElem?_eq_getElem (by rw [HN.out.1]; exact hlt)⟩
      obtain ⟨u, hu, hut⟩ := map_at HN.out.2.1.symm ht
      have HTU := Lib.hid (And.intro ht (And.intro hu hut))
      have HTL := Lib.hid (HN.out.2.2 t (List.mem_of_getElem? ht))
      obtain ⟨b1, o1, rfl, c1, _⟩ := (HR.out.1.below HBW.out) k t ht
      obtain ⟨b2, o2, rfl, c2, _⟩ := (HR.out.2.below HBW.out) k u hu
      have hul : u.xs.length = t.xs.length := by have := congrArg List.length hut; simpa [tbC] using this
      obtain ⟨m, hm⟩ : ∃ m, t.xs.length = m := ⟨_, rfl⟩
      have HM := Lib.hid (show t.xs.length = m ∧ u.xs.length = m from ⟨hm, hul.trans hm⟩)
      rw [hul, hm] at c2
      rw [hm] at c1
      have hm2 : m ≤ 1000000 := by rw [← hm]; exact HTL.out.1
      have e1 : ((m : Int) != (m : Int)) = false := by simp
      clear ht hu hut hul hm
      go_upto_region 6 with (fail)
      go_quiet (fail)
      obtain ⟨WD, hWD⟩ : ∃ W, W = wr.drewN nq := ⟨_, rfl⟩
      rw [← hWD]
      have HBD := Lib.hid (show Below w.heap.size w WD by rw [hWD]; exact below_drewN HBW.out _)
      clear hWD c1 c2
      go_upto_region 9 with (fail)
      go_loopw [6, 7, 8] (fun j q2 q3 wr => ∃ l : Nat, l ≤ m ∧ j = .int .i64 (l : Int) ∧ Hid (Below w.heap.size w wr)) (fun j _ _ _ => m - (intOf j).toNat)
      case atStart => exact ⟨0, Nat.zero_le _, rfl, HBD⟩
      case round =>
        obtain ⟨l, hl, rfl, HBV⟩ := hrel
        by_cases hlm : l < m
        · have d2 : (l : Int) < (m : Int) := by omega
          obtain ⟨x, hx⟩ : ∃ x, t.xs[l]? = some x := ⟨_, List.getElem?_eq_getElem (by rw [HM.out.1]; exact hlm)⟩
          obtain ⟨y, hy, hyx⟩ := map_at (f := stC) HTU.out.2.2 hx
          obtain ⟨_, _, ea, c1, sx⟩ := (HR.out.1.below HBV.out) k t HTU.out.1
          cases ea
          obtain ⟨_, _, eb, c2, sy⟩ := (HR.out.2.below HBV.out) k u HTU.out.2.1
          cases eb
          obtain ⟨bx, ox, hta, _⟩ := sx l x hx
          obtain ⟨by', oy, hua, _⟩ := sy l y hy
          rw [HM.out.1, hta] at c1
          rw [HM.out.2, hua] at c2
          have FX := Lib.hid (fun W (b : Below w.heap.size w W) => (by
            obtain ⟨_, _, ea, c1, sx⟩ := (HR.out.1.below b) k t HTU.out.1
            cases ea
            obtain ⟨_, _, eb, c2, sy⟩ := (HR.out.2.below b) k u HTU.out.2.1
            cases eb
            obtain ⟨_, _, ea, x0, x1, x2, x3, _⟩ := sx l x hx
            rw [hta] at ea
            cases ea
            obtain ⟨_, _, eb, y0, y1, y2, y3, _⟩ := sy l y hy
            rw [hua] at eb
            cases eb
            rw [HM.out.1, hta] at c1
            rw [HM.out.2, hua] at c2
            exact ⟨c1, c2, x0, x1, x2, x3, y0, y1, y2, y3⟩ : W.cell? ⟨b1, o1 + k, none⟩ = some (.slice (some ⟨bx, ox, none⟩) m t.c) ∧ W.cell? ⟨b2, o2 + k, none⟩ = some (.slice (some ⟨by', oy, none⟩) m u.c) ∧ W.cell? ⟨bx, ox + l * 4, none⟩ = some (.slice x.ka x.key.length x.kc) ∧ W.cell? ⟨bx, ox + l * 4 + 1, none⟩ = some (.slice x.ra x.R.length x.rc) ∧ W.cell? ⟨bx, ox + l * 4 + 2, none⟩ = some (.int .i64 x.e) ∧ W.cell? ⟨bx, ox + l * 4 + 3, none⟩ = some (.int .i64 x.s) ∧ W.cell? ⟨by', oy + l * 4, none⟩ = some (.slice y.ka y.key.length y.kc) ∧ W.cell? ⟨by', oy + l * 4 + 1, none⟩ = some (.slice y.ra y.R.length y.rc) ∧ W.cell? ⟨by', oy + l * 4 + 2, none⟩ = some (.int .i64 y.e) ∧ W.cell? ⟨by', oy + l * 4 + 3, none⟩ = some (.int .i64 y.s)))
          have HOK := Lib.hid (fun W (b : Below w.heap.size w W) => (by
            obtain ⟨_, _, _, _, sx⟩ := (HR.out.1.below b) k t HTU.out.1
            obtain ⟨_, _, _, _, sy⟩ := (HR.out.2.below b) k u HTU.out.2.1
            obtain ⟨_, _, _, _, _, _, _, okx⟩ := sx l x hx
            obtain ⟨_, _, _, _, _, _, _, oky⟩ := sy l y hy
            exact ⟨okx, oky⟩ : StOk W x ∧ StOk W y))
          have hxr := HTL.out.2 x (List.mem_of_getElem? hx)
          have hcc : y.key = x.key ∧ y.R.map P1.bs = x.R.map P1.bs ∧ y.e = x.e ∧ y.s = x.s := by
            unfold stC at hyx
            simp only [Prod.mk.injEq] at hyx
            exact hyx
          have hyr : y.R.length = x.R.length := by have := congrArg List.length hcc.2.1; simpa using this
          have HCC := Lib.hid (And.intro hcc (And.intro hxr (show y.R.length ≤ 1000000 by omega)))
          clear hx hy hyx sx sy hta hua hxr hcc hyr
          obtain ⟨WY, rfl⟩ : ∃ Y, Y = wr := ⟨_, rfl⟩
          have HBY := Lib.hid HBV.out
          go_upto_region 11 with (fail)
          go_cut [7, 8] (fun u v wx => ∃ b4 b5 : Nat, u = .pointer (some ⟨b4, 0, none⟩) ∧ v = .pointer (some ⟨b5, 0, none⟩) ∧ Hid (BoxC wx b4 #[.slice x.ka x.key.length x.kc, .slice x.ra x.R.length x.rc, .int .i64 x.e, .int .i64 x.s] 59) ∧ Hid (BoxC wx b5 #[.slice y.ka y.key.length y.kc, .slice y.ra y.R.length y.rc, .int .i64 y.e, .int .i64 y.s] 59) ∧ Hid (Below w.heap.size w wx))
          case first =>
            rename_i JJ KK hJJ hKK
            refine Code.wp_mono (Q := Exit.then KK (fun _ _ _ => False)) (fun e a' w' h => by cases e <;> first | exact h | exact h.elim) ?_
            refine wp_region_held_drew (S := (fun X => Below w.heap.size w X)) (by kernel_rfl) (HBY.out.drew) (fun hHeld => ?_)
            refine tp 0 ?_ rfl (.inl ⟨by rfl, ?_⟩) ?_
            rotate_left
            · intro W hSw; go_simp; try with_reducible rfl
            refine tp 1 ?_ rfl (.inl ⟨by rfl, ?_⟩) ?_
            rotate_left
            · intro W hSw; go_simp; try with_reducible rfl
            refine tp 2 ?_ rfl (.inl ⟨by rfl, ?_⟩) ?_
            rotate_left
            · intro W hSw; go_simp; try with_reducible rfl
            refine tp 3 ?_ rfl (.inl ⟨by rfl, ?_⟩) ?_
            rotate_left
            · intro W hSw; obtain ⟨c1, c2, x0, x1, x2, x3, y0, y1, y2, y3⟩ := FX.out W hSw; go_simp; try with_reducible rfl
            refine tp 4 ?_ rfl (.inl ⟨by rfl, ?_⟩) ?_
            rotate_left
            · intro W hSw; go_simp; try with_reducible rfl
            refine tp 5 ?_ rfl (.inl ⟨by rfl, ?_⟩) ?_
            rotate_left
            · intro W hSw; go_simp; try with_reducible rfl
            refine tp 6 ?_ rfl (.inl ⟨by rfl, ?_⟩) ?_
            rotate_left
            · intro W hSw; obtain ⟨c1, c2, x0, x1, x2, x3, y0, y1, y2, y3⟩ := FX.out W hSw; go_simp; try with_reducible rfl
            refine tp 7 ?_ rfl (.inl ⟨by rfl, ?_⟩) ?_
            rotate_left
            · intro W hSw; go_simp; try with_reducible rfl
            refine tp 8 ?_ rfl (.inl ⟨by rfl, ?_⟩) ?_
            rotate_left
            · intro W hSw; go_simp; try with_reducible rfl
            refine tp 9 ?_ rfl (.inl ⟨by rfl, ?_⟩) ?_
            rotate_left
            · intro W hSw; go_simp; try with_reducible rfl
            refine tp 10 ?_ rfl (.inl ⟨by rfl, ?_⟩) ?_
            rotate_left
            · intro W hSw; obtain ⟨c1, c2, x0, x1, x2, x3, y0, y1, y2, y3⟩ := FX.out W hSw; go_simp; try with_reducible rfl
            refine tp 11 ?_ rfl (.inl ⟨by rfl, ?_⟩) ?_
            rotate_left
            · intro W hSw; go_simp; try with_reducible rfl
            refine tp 12 ?_ rfl (.inl ⟨by rfl, ?_⟩) ?_
            rotate_left
            · intro W hSw; go_simp; try with_reducible rfl
            refine tp 13 ?_ rfl (.inl ⟨by rfl, ?_⟩) ?_
            rotate_left
            · intro W hSw; obtain ⟨c1, c2, x0, x1, x2, x3, y0, y1, y2, y3⟩ := FX.out W hSw; go_simp; try with_reducible rfl
            refine wpAnyH_ready (rs := [14, 15]) (by kernel_rfl) (by simp) ?_
            refine ar rfl (fun K hK => ?_) ?_
            · skip
              go_simp
              refine hK.out _ _ (hHeld.alloc hHeld.size _) (fun hHeldn => ?_)
              clear hK K hHeld; have hHeld := hHeldn; clear hHeldn
              try simp only [Act.put, List.setIfInBounds_toArray, List.set_cons_zero, List.set_cons_succ]
              refine a1 15 rfl (fun K hK => ?_)
              go_simp
              refine hK.out _ _ (hHeld.alloc hHeld.size _) (fun hHeldn => ?_)
              clear hK K hHeld; have hHeld := hHeldn; clear hHeldn
              try simp only [Act.put, List.setIfInBounds_toArray, List.set_cons_zero, List.set_cons_succ]
              refine a1 16 rfl (fun K hK => ?_)
              go_simp
              refine hK.out _ _ (((HBY.out.drew).alloc (by have := HBY.out.size; simp; omega) _).alloc (by have := HBY.out.size; simp; omega) _) (fun hHeldn => ?_)
              clear hK K hHeld; have hHeld := hHeldn; clear hHeldn
              try simp only [Act.put, List.setIfInBounds_toArray, List.set_cons_zero, List.set_cons_succ]
              refine a1 17 rfl (fun K hK => ?_)
              go_simp
              refine hK.out _ _ (((HBY.out.drew).alloc (by have := HBY.out.size; simp; omega) _).alloc (by have := HBY.out.size; simp; omega) _) (fun hHeldn => ?_)
              clear hK K hHeld; have hHeld := hHeldn; clear hHeldn
              try simp only [Act.put, List.setIfInBounds_toArray, List.set_cons_zero, List.set_cons_succ]
              refine wpAnyH_done (by kernel_rfl) ?_ _
              refine hKK _ _ ?_
              go_meet
              exact ⟨WY.heap.size, (WY.heap.size + 1), rfl, rfl, Lib.hid ((BoxC.new WY.drew #[.slice x.ka x.key.length x.kc, .slice x.ra x.R.length x.rc, .int .i64 x.e, .int .i64 x.s] 59).alloc (.cells #[.slice y.ka y.key.length y.kc, .slice y.ra y.R.length y.rc, .int .i64 y.e, .int .i64 y.s] 59)), Lib.hid ((by have h := BoxC.new (WY.drew.alloc (.cells #[.slice x.ka x.key.length x.kc, .slice x.ra x.R.length x.rc, .int .i64 x.e, .int .i64 x.s] 59)) #[.slice y.ka y.key.length y.kc, .slice y.ra y.R.length y.rc, .int .i64 y.e, .int .i64 y.s] 59; have hs : (WY.drew.alloc (.cells #[.slice x.ka x.key.length x.kc, .slice x.ra x.R.length x.rc, .int .i64 x.e, .int .i64 x.s] 59)).heap.size = WY.heap.size + 1 := (by simp); exact hs ▸ h)), Lib.hid hHeld⟩
            refine ar rfl (fun K hK => ?_) AllReadyH.nil
            go_simp
            refine hK.out _ _ (hHeld.alloc hHeld.size _) (fun hHeldn => ?_)
            clear hK K hHeld; have hHeld := hHeldn; clear hHeldn
            try simp only [Act.put, List.setIfInBounds_toArray, List.set_cons_zero, List.set_cons_succ]
            refine a1 14 rfl (fun K hK => ?_)
            go_simp
            refine hK.out _ _ (hHeld.alloc hHeld.size _) (fun hHeldn => ?_)
            clear hK K hHeld; have hHeld := hHeldn; clear hHeldn
            try simp only [Act.put, List.setIfInBounds_toArray, List.set_cons_zero, List.set_cons_succ]
            refine a1 16 rfl (fun K hK => ?_)
            go_simp
            refine hK.out _ _ (((HBY.out.drew).alloc (by have := HBY.out.size; simp; omega) _).alloc (by have := HBY.out.size; simp; omega) _) (fun hHeldn => ?_)
            clear hK K hHeld; have hHeld := hHeldn; clear hHeldn
            try simp only [Act.put, List.setIfInBounds_toArray, List.set_cons_zero, List.set_cons_succ]
            refine a1 17 rfl (fun K hK => ?_)
            go_simp
            refine hK.out _ _ (((HBY.out.drew).alloc (by have := HBY.out.size; simp; omega) _).alloc (by have := HBY.out.size; simp; omega) _) (fun hHeldn => ?_)
            clear hK K hHeld; have hHeld := hHeldn; clear hHeldn
            try simp only [Act.put, List.setIfInBounds_toArray, List.set_cons_zero, List.set_cons_succ]
            refine wpAnyH_done (by kernel_rfl) ?_ _
            refine hKK _ _ ?_
            go_meet
            exact ⟨(WY.heap.size + 1), WY.heap.size, rfl, rfl, Lib.hid ((by have h := BoxC.new (WY.drew.alloc (.cells #[.slice y.ka y.key.length y.kc, .slice y.ra y.R.length y.rc, .int .i64 y.e, .int .i64 y.s] 59)) #[.slice x.ka x.key.length x.kc, .slice x.ra x.R.length x.rc, .int .i64 x.e, .int .i64 x.s] 59; have hs : (WY.drew.alloc (.cells #[.slice y.ka y.key.length y.kc, .slice y.ra y.R.length y.rc, .int .i64 y.e, .int .i64 y.s] 59)).heap.size = WY.heap.size + 1 := (by simp); exact hs ▸ h)), Lib.hid ((BoxC.new WY.drew #[.slice y.ka y.key.length y.kc, .slice y.ra y.R.length y.rc, .int .i64 y.e, .int .i64 y.s] 59).alloc (.cells #[.slice x.ka x.key.length x.kc, .slice x.ra x.R.length x.rc, .int .i64 x.e, .int .i64 x.s] 59)), Lib.hid hHeld⟩
          case rest =>
          obtain ⟨b4, b5, rfl, rfl, BX4, BX5, HB6⟩ := hcut
          obtain ⟨okx, oky⟩ := HOK.out wc HB6.out
          have h1 := conv_ls wc x.ka x.key.length x.kc x.key rfl okx.ls.rd
          have h2 := conv_ls wc y.ka y.key.length y.kc y.key rfl oky.ls.rd
          have HSM := Lib.hid (rsame_law x.ra y.ra x.R y.R x.R.length y.R.length x.rc y.rc rfl rfl HCC.out.2.1 HCC.out.2.2 okx.rb oky.rb wc okx.row oky.row)
          rw [decide_eq_true HCC.out.1.2.1.symm] at HSM
          rw [HCC.out.1.1] at h2
          have ez0 : wc.cell? ⟨b4, 0, none⟩ = some (.slice x.ka x.key.length x.kc) := BX4.out.cell 0
          have ez1 : wc.cell? ⟨b4, 1, none⟩ = some (.slice x.ra x.R.length x.rc) := BX4.out.cell 1
          have ez2 : wc.cell? ⟨b4, 2, none⟩ = some (.int .i64 x.e) := BX4.out.cell 2
          have ez3 : wc.cell? ⟨b4, 3, none⟩ = some (.int .i64 x.s) := BX4.out.cell 3
          have ey0 : wc.cell? ⟨b5, 0, none⟩ = some (.slice y.ka y.key.length y.kc) := BX5.out.cell 0
          have ey1 : wc.cell? ⟨b5, 1, none⟩ = some (.slice y.ra y.R.length y.rc) := BX5.out.cell 1
          have ey2 : wc.cell? ⟨b5, 2, none⟩ = some (.int .i64 y.e) := BX5.out.cell 2
          have ey3 : wc.cell? ⟨b5, 3, none⟩ = some (.int .i64 y.s) := BX5.out.cell 3
          rw [HCC.out.1.2.2.1] at ey2
          rw [HCC.out.1.2.2.2] at ey3
          rw [HCC.out.1.1] at ey0
          obtain ⟨st, hst⟩ : ∃ st, strOfNums x.key = st := ⟨_, rfl⟩
          rw [hst] at h1 h2
          have hns := fun W => neq_str st W
          have hnt := fun W => neq_tid x.e x.s W
          clear okx oky hst c1 c2
          go_wp2_with fail
          refine HSM.out.mono ?_
          rintro r w7 ⟨rfl, hb7⟩
          have HB7 := Lib.hid (step_below HB6.out hb7)
          clear hb7 ez0 ez1 ez2 ez3 ey0 ey1 ey2 ey3 h1 h2
          go_wp2_with fail
          go_roundw
          case rel => exact ⟨l + 1, by omega, by go_num, HB7⟩
          case measure => simp [intOf]; omega
        · have d2 : ¬ (l : Int) < (m : Int) := by omega
          obtain ⟨_, _, ea, c1, _⟩ := (HR.out.1.below HBV.out) k t HTU.out.1
          cases ea
          rw [HM.out.1] at c1
          go_wp2_with fail
          go_roundw
          case rel => exact ⟨k + 1, by omega, by go_num, HBV⟩
          case measure => simp [intOf]; omega
    · have d1 : ¬ (k : Int) < (n : Int) := by omega
      go_wp2_with fail
      go_ret
      exact ⟨rfl, HBW.out⟩
def ckE (e : Int) (ts : List TbP) : Int := if ckB e ts then (if 4096 < cntT ts ts.length then 3 else 0) else 2
theorem ckE_no {e : Int} {ts : List TbP} (h : ckB e ts = false) : ckE e ts = 2 := by unfold ckE; rw [h]; rfl
theorem okR_no {e : Int} {xs : List StP} {k : Nat} (h : okR e xs k = false) : ∀ d, okR e xs (k + d) = false
  | 0 => h
  | d + 1 => by
    have ih := okR_no h d
    show (match xs[k + d]? with | some x => (okR e xs (k + d) && stB e x) && _ | none => okR e xs (k + d)) = false
    cases hx : xs[k + d]? with
    | none => exact ih
    | some x => simp only [ih, Bool.false_and]
theorem okT_no {e : Int} {ts : List TbP} {k : Nat} (h : okT e ts k = false) : ∀ d, okT e ts (k + d) = false
  | 0 => h
  | d + 1 => by
    have ih := okT_no h d
    show (match ts[k + d]? with | some t => okT e ts (k + d) && tbB e t.xs | none => okT e ts (k + d)) = false
    cases hx : ts[k + d]? with
    | none => exact ih
    | some x => simp only [ih, Bool.false_and]
theorem ckB_no {e : Int} {ts : List TbP} {k : Nat} (hk : k ≤ ts.length) (h : okT e ts k = false) : ckB e ts = false := by
  unfold ckB
  rw [show ts.length = k + (ts.length - k) by omega]
  exact okT_no h _
theorem ck_no_row {e : Int} {ts : List TbP} {k l : Nat} {t : TbP} {x : StP} (ht : ts[k]? = some t) (hx : t.xs[l]? = some x) (h : okR e t.xs (l + 1) = false) : ckB e ts = false := by
  have h1 := (List.getElem?_eq_some_iff.1 ht).1
  have h2 := (List.getElem?_eq_some_iff.1 hx).1
  refine ckB_no (k := k + 1) (by omega) ?_
  rw [okT_next ht]
  have : tbB e t.xs = false := by
    unfold tbB
    rw [show t.xs.length = l + 1 + (t.xs.length - (l + 1)) by omega]
    exact okR_no h _
  rw [this, Bool.and_false]
theorem okR_st {e : Int} {xs : List StP} {l : Nat} {x : StP} (hx : xs[l]? = some x) (h : stB e x = false) : okR e xs (l + 1) = false := by
  show (match xs[l]? with | some x => (okR e xs l && stB e x) && _ | none => okR e xs l) = false
  rw [hx]
  simp only [h, Bool.and_false, Bool.false_and]
set_option maxRecDepth 100000 in
set_option maxHeartbeats 4000000 in
/-- The document's Checkpoint (32). -/
theorem rck_law (e : Int) (a : Option Addr) (ts : List TbP) (n cap : Nat) (hn : ts.length = n) (hn2 : n ≤ 1000000) (hc : cntT ts n ≤ 1000000000) (w : World) (hR : TbsR w a ts) :
    Calls Tryz.prog 32 #[.agg #[.int .i64 e, .slice a n cap]] w fun r w' => r = .returned (.int .i64 (ckE e ts)) ∧ Below w.heap.size w w' := by
  have HR := Lib.hid hR
  have HN := Lib.hid hn
  have HC := Lib.hid (fun k => (show cntT ts k ≤ 1000000000 from by have := cntT_le ts k; rw [hn] at this; omega))
  clear hn hR hc
  go_enter Tryz.func32, Tryz.ntmps32
  go_upto_region 1 with (fail)
  obtain ⟨W1, hW0⟩ : ∃ W0, w.alloc (.cells #[.int .i64 e, .slice a n cap] 56) = W0 := ⟨_, rfl⟩
  have hb0 : Below w.heap.size w W1 := by rw [← hW0]; exact bl1 _ _
  have bx : BoxC W1 w.heap.size #[.int .i64 e, .slice a n cap] 56 := by rw [← hW0]; exact BoxC.new w _ 56
  try rw [hW0]
  clear hW0
  have HB0 := Lib.hid hb0
  have FB := Lib.hid (fun X (b : Below W1.heap.size W1 X) => (⟨(bx.below b).cell 0, (bx.below b).cell 1⟩ : X.cell? ⟨w.heap.size, 0, none⟩ = some (.int .i64 e) ∧ X.cell? ⟨w.heap.size, 1, none⟩ = some (.slice a n cap)))
  obtain ⟨z0, z1⟩ := FB.out W1 (Below.refl _ _)
  clear hb0 bx
  have HE0 := Lib.hid (fun (h : okT e ts 0 = false) => ckE_no (ckB_no (Nat.zero_le _) h))
  have HOT := Lib.hid (show okT e ts 0 = (inB e 0 16777215 && decide ((n : Int) ≤ 4)) by show (inB e 0 16777215 && decide ((ts.length : Int) ≤ 4)) = _; rw [HN.out])
  by_cases h1 : e < 0
  · have HX := Lib.hid (HE0.out (by rw [HOT.out]; unfold inB; rw [decide_eq_false (by omega)]; rfl))
    go_wp2_with fail
    go_ret
    exact ⟨by rw [HX.out]; rfl, HB0.out⟩
  by_cases h2 : 16777215 < e
  · have HX := Lib.hid (HE0.out (by rw [HOT.out]; unfold inB; rw [decide_eq_false (by omega)]; rfl))
    go_wp2_with fail
    go_ret
    exact ⟨by rw [HX.out]; rfl, HB0.out⟩
  by_cases h3 : 4 < n
  · have h3i : (4 : Int) < (n : Int) := by omega
    have HX := Lib.hid (HE0.out (by rw [HOT.out, decide_eq_false (by omega), Bool.and_false]))
    clear h3
    go_wp2_with fail
    go_ret
    exact ⟨by rw [HX.out]; rfl, HB0.out⟩
  have h3i : ¬ (4 : Int) < (n : Int) := by omega
  have HOK0 := Lib.hid (show okT e ts 0 = true by rw [HOT.out]; unfold inB; rw [decide_eq_true (by omega), decide_eq_true (by omega)]; rfl)
  clear h3
  go_wp2_with fail
  clear z0 z1 h1 h2 h3i HE0 HOT
  go_loopw [3, 4, 5, 6] (fun c i q p wr => ∃ k : Nat, k ≤ n ∧ c = .int .i64 (cntT ts k : Int) ∧ i = .int .i64 (k : Int) ∧ Hid (okT e ts k = true) ∧ Hid (Below W1.heap.size W1 wr)) (fun _ i _ _ _ => n - (intOf i).toNat)
  case atStart => exact ⟨0, by omega, rfl, rfl, HOK0, Lib.hid (Below.refl _ _)⟩
  case round =>
    clear HOK0
    obtain ⟨k, hk, rfl, rfl, HOK, HBW⟩ := hrel
    obtain ⟨z0, z1⟩ := FB.out wr HBW.out
    obtain ⟨cn, hcn⟩ : ∃ c, cntT ts k = c := ⟨_, rfl⟩
    have HCN := Lib.hid hcn
    rw [hcn]
    by_cases hlt : k < n
    · have d1 : (k : Int) < (n : Int) := by omega
      obtain ⟨t, ht⟩ : ∃ t, ts[k]? = some t := ⟨_, List.getElem?_eq_getElem (by rw [HN.out]; exact hlt)⟩
      have HTT := Lib.hid ht
      obtain ⟨bt, ot, rfl, ct, _⟩ := (HR.out.below (step_below HB0.out HBW.out)) k t ht
      obtain ⟨m, hm⟩ : ∃ m, t.xs.length = m := ⟨_, rfl⟩
      have HM := Lib.hid hm
      have hcm := HC.out (k + 1)
      rw [cntT_next ht, hm, hcn] at hcm
      have HCM := Lib.hid (show cntT ts (k + 1) = cn + m by rw [cntT_next ht, hm, hcn])
      rw [hm] at ct
      have hw : IntKind.i64.wrap ((cn : Int) + (m : Int)) = ((cn + m : Nat) : Int) := by rw [IntKind.wrap_i64]; omega
      clear ht hm hcn
      go_upto_region 9 with (fail)
      obtain ⟨WO, rfl⟩ : ∃ WO, WO = wr := ⟨_, rfl⟩
      clear hw
      go_loopw [5, 6] (fun j p wr => ∃ l : Nat, l ≤ m ∧ j = .int .i64 (l : Int) ∧ Hid (okR e t.xs l = true) ∧ Hid (Below W1.heap.size W1 wr)) (fun j _ _ => m - (intOf j).toNat)
      case atStart => exact ⟨0, Nat.zero_le _, rfl, Lib.hid rfl, HBW⟩
      case round =>
        obtain ⟨l, hl, rfl, HOL, HBV⟩ := hrel
        clear ct z0 z1
        obtain ⟨z0, z1⟩ := FB.out wr HBV.out
        obtain ⟨_, _, ea, ct, hst⟩ := (HR.out.below (step_below HB0.out HBV.out)) k t HTT.out
        cases ea
        rw [HM.out] at ct
        by_cases hlm : l < m
        · have d2 : (l : Int) < (m : Int) := by omega
          obtain ⟨x, hx⟩ : ∃ x, t.xs[l]? = some x := ⟨_, List.getElem?_eq_getElem (by rw [HM.out]; exact hlm)⟩
          have HXX := Lib.hid hx
          obtain ⟨bx, ox, hta, c0, c1, c2, c3, ok⟩ := hst l x hx
          have HTA := Lib.hid hta
          have HST := Lib.hid hst
          rw [hta] at ct
          have HOKX := Lib.hid ok
          obtain ⟨xe, hxe⟩ : ∃ y, x.e = y := ⟨_, rfl⟩
          obtain ⟨xs, hxs⟩ : ∃ y, x.s = y := ⟨_, rfl⟩
          obtain ⟨xl, hxl⟩ : ∃ y, x.key.length = y := ⟨_, rfl⟩
          obtain ⟨xrl, hxrl⟩ : ∃ y, x.R.length = y := ⟨_, rfl⟩
          obtain ⟨xa, hxa⟩ : ∃ y, x.ka = y := ⟨_, rfl⟩
          obtain ⟨xc, hxc⟩ : ∃ y, x.kc = y := ⟨_, rfl⟩
          obtain ⟨xra, hxra⟩ : ∃ y, x.ra = y := ⟨_, rfl⟩
          obtain ⟨xrc, hxrc⟩ : ∃ y, x.rc = y := ⟨_, rfl⟩
          have HXE := Lib.hid (And.intro hxl (And.intro hxa hxc))
          have HMR := Lib.hid (fun W (b : Below wr.heap.size wr W) => refmay_law x.ra x.R x.R.length x.rc rfl W (ok.row.below b))
          obtain ⟨mk, hmk⟩ : ∃ b, mayK x.key.length = b := ⟨_, rfl⟩
          obtain ⟨mr, hmr⟩ : ∃ b, mayR x.R = b := ⟨_, rfl⟩
          obtain ⟨mt, hmt⟩ : ∃ b, tidB x.e x.s = b := ⟨_, rfl⟩
          have HMK := Lib.hid (fun W => rmaykey_law x.ka x.key.length x.kc W)
          have HMT := Lib.hid (fun W => rmaytid_law x.e x.s W)
          have HSB := Lib.hid (show stB e x = (mk && (mr && (mt && decide (xe ≤ e)))) by unfold stB; rw [hmk, hmr, hmt, hxe])
          rw [hmr, hxrl, hxra, hxrc] at HMR
          rw [hmk, hxl, hxa, hxc] at HMK
          rw [hmt, hxe, hxs] at HMT
          rw [hxa, hxl, hxc] at c0
          rw [hxra, hxrl, hxrc] at c1
          rw [hxe] at c2
          rw [hxs] at c3
          clear hx hta hst ok hmk hmr hmt hxe hxs hxl hxrl hxa hxc hxra hxrc
          go_upto_region 12 with (fail)
          obtain ⟨W2, hW2⟩ : ∃ W2, wr.alloc (.cells #[.slice xa xl xc, .slice xra xrl xrc, .int .i64 xe, .int .i64 xs] 59) = W2 := ⟨_, rfl⟩
          have hb2 : Below wr.heap.size wr W2 := by rw [← hW2]; exact bl1 _ _
          have bw : BoxC W2 wr.heap.size #[.slice xa xl xc, .slice xra xrl xrc, .int .i64 xe, .int .i64 xs] 59 := by rw [← hW2]; exact BoxC.new wr _ 59
          try rw [hW2]
          clear hW2 c0 c1 c2 c3 z0 z1 ct
          have HB2 := Lib.hid (step_below HBV.out hb2)
          have HB3 := Lib.hid hb2
          have HMR := Lib.hid (fun W (b : Below W2.heap.size W2 W) => HMR.out W (step_below HB3.out b))
          have FQ := Lib.hid (fun W (b : Below W2.heap.size W2 W) => (by
            obtain ⟨u0, u1⟩ := FB.out W (step_below HB2.out b)
            obtain ⟨_, _, ea, ct, _⟩ := (HR.out.below (step_below HB0.out (step_below HB2.out b))) k t HTT.out
            cases ea
            rw [HM.out, HTA.out] at ct
            exact ⟨u0, u1, ct, (bw.below b).cell 0, (bw.below b).cell 1, (bw.below b).cell 2, (bw.below b).cell 3⟩ : W.cell? ⟨w.heap.size, 0, none⟩ = some (.int .i64 e) ∧ W.cell? ⟨w.heap.size, 1, none⟩ = some (.slice (some ⟨bt, ot, none⟩) n cap) ∧ W.cell? ⟨bt, ot + k, none⟩ = some (.slice (some ⟨bx, ox, none⟩) m t.c) ∧ W.cell? ⟨wr.heap.size, 0, none⟩ = some (.slice xa xl xc) ∧ W.cell? ⟨wr.heap.size, 1, none⟩ = some (.slice xra xrl xrc) ∧ W.cell? ⟨wr.heap.size, 2, none⟩ = some (.int .i64 xe) ∧ W.cell? ⟨wr.heap.size, 3, none⟩ = some (.int .i64 xs)))
          clear hb2 bw
          rename_i KK hKK
          obtain ⟨NX, hNX⟩ : ∃ x, wr.heap.size = x := ⟨_, rfl⟩
          rw [hNX] at FQ ⊢
          have HNX := Lib.hid hNX
          clear hNX
          cases mk with
          | false =>
            refine Code.wp_mono (Q := Exit.then KK (fun _ _ _ => False)) (fun e a' w' h => by cases e <;> first | exact h | exact h.elim) ?_
            refine wp_region_held_drew (S := (fun X => Below W2.heap.size W2 X)) (by kernel_rfl) ((Below.refl _ _).drew) (fun hHeld => ?_)
            refine tp 0 ?_ rfl (.inl ⟨by rfl, ?_⟩) ?_
            rotate_left
            · intro W hSw; go_simp; try with_reducible rfl
            refine tp 1 ?_ rfl (.inl ⟨by rfl, ?_⟩) ?_
            rotate_left
            · intro W hSw; obtain ⟨f0, f1, f2, x0, x1, x2, x3⟩ := FQ.out W hSw; go_simp; try with_reducible rfl
            refine a1 2 rfl (fun K hK => ?_)
            go_simp
            refine (HMK.out _).mono ?_; rintro e9 w4 ⟨rfl, rfl⟩
            go_wp2_with fail
            refine hK.out _ _ (hHeld) (fun hHeldn => ?_)
            clear hK K hHeld; have hHeld := hHeldn; clear hHeldn
            try simp only [Act.put, List.setIfInBounds_toArray, List.set_cons_zero, List.set_cons_succ]
            refine tp 3 ?_ rfl (.inl ⟨by rfl, ?_⟩) ?_
            rotate_left
            · intro W hSw; go_simp; try with_reducible rfl
            refine tp 4 ?_ rfl (.inl ⟨by rfl, ?_⟩) ?_
            rotate_left
            · intro W hSw; go_simp; try with_reducible rfl
            refine tn 5 rfl ?_
            refine tn 6 rfl ?_
            refine tn 7 rfl ?_
            refine tn 8 rfl ?_
            refine tp 9 ?_ rfl (.inl ⟨by rfl, ?_⟩) ?_
            rotate_left
            · intro W hSw; go_simp; try with_reducible rfl
            refine tp 10 ?_ rfl (.inl ⟨by rfl, ?_⟩) ?_
            rotate_left
            · intro W hSw; go_simp; try with_reducible rfl
            refine tn 11 rfl ?_
            refine tn 12 rfl ?_
            refine tn 13 rfl ?_
            refine tn 14 rfl ?_
            refine tp 15 ?_ rfl (.inl ⟨by rfl, ?_⟩) ?_
            rotate_left
            · intro W hSw; go_simp; try with_reducible rfl
            refine tp 16 ?_ rfl (.inl ⟨by rfl, ?_⟩) ?_
            rotate_left
            · intro W hSw; go_simp; try with_reducible rfl
            refine tn 17 rfl ?_
            refine tn 18 rfl ?_
            refine tn 19 rfl ?_
            refine tn 20 rfl ?_
            refine tn 21 rfl ?_
            refine tn 22 rfl ?_
            refine tp 23 ?_ rfl (.inl ⟨by rfl, ?_⟩) ?_
            rotate_left
            · intro W hSw; go_simp; try with_reducible rfl
            refine tp 24 ?_ rfl (.inl ⟨by rfl, ?_⟩) ?_
            rotate_left
            · intro W hSw; go_simp; try with_reducible rfl
            refine tn 25 rfl ?_
            refine tn 26 rfl ?_
            refine tn 27 rfl ?_
            refine tn 28 rfl ?_
            refine tn 29 rfl ?_
            refine tn 30 rfl ?_
            refine tn 31 rfl ?_
            refine tn 32 rfl ?_
            refine tn 33 rfl ?_
            refine tn 34 rfl ?_
            refine tn 35 rfl ?_
            refine tn 36 rfl ?_
            refine tn 37 rfl ?_
            refine tn 38 rfl ?_
            refine tn 39 rfl ?_
            refine tn 40 rfl ?_
            refine tn 41 rfl ?_
            refine tn 42 rfl ?_
            refine tn 43 rfl ?_
            refine tp 44 ?_ rfl (.inl ⟨by rfl, ?_⟩) ?_
            rotate_left
            · intro W hSw; go_simp; try with_reducible rfl
            refine wpAnyH_done (by kernel_rfl) ?_ _
            skip
            refine hKK _ _ ?_
            have HX := Lib.hid (ck_no_row HTT.out HXX.out (okR_st HXX.out (by rw [HSB.out]; simp)))
            have HBZ := Lib.hid (step_below HB0.out (step_below HB2.out hHeld))
            clear hKK hHeld
            go_wp2_with fail
            go_ret
            exact ⟨by rw [ckE_no HX.out]; rfl, HBZ.out⟩
          | true =>
          cases mr with
          | false =>
            refine Code.wp_mono (Q := Exit.then KK (fun _ _ _ => False)) (fun e a' w' h => by cases e <;> first | exact h | exact h.elim) ?_
            refine wp_region_held_drew (S := (fun X => Below W2.heap.size W2 X)) (by kernel_rfl) ((Below.refl _ _).drew) (fun hHeld => ?_)
            refine tp 0 ?_ rfl (.inl ⟨by rfl, ?_⟩) ?_
            rotate_left
            · intro W hSw; go_simp; try with_reducible rfl
            refine tp 1 ?_ rfl (.inl ⟨by rfl, ?_⟩) ?_
            rotate_left
            · intro W hSw; obtain ⟨f0, f1, f2, x0, x1, x2, x3⟩ := FQ.out W hSw; go_simp; try with_reducible rfl
            refine a1 2 rfl (fun K hK => ?_)
            go_simp
            refine (HMK.out _).mono ?_; rintro e9 w4 ⟨rfl, rfl⟩
            go_wp2_with fail
            refine hK.out _ _ (hHeld) (fun hHeldn => ?_)
            clear hK K hHeld; have hHeld := hHeldn; clear hHeldn
            try simp only [Act.put, List.setIfInBounds_toArray, List.set_cons_zero, List.set_cons_succ]
            refine tp 3 ?_ rfl (.inl ⟨by rfl, ?_⟩) ?_
            rotate_left
            · intro W hSw; go_simp; try with_reducible rfl
            refine tp 4 ?_ rfl (.inl ⟨by rfl, ?_⟩) ?_
            rotate_left
            · intro W hSw; go_simp; try with_reducible rfl
            refine tp 5 ?_ rfl (.inl ⟨by rfl, ?_⟩) ?_
            rotate_left
            · intro W hSw; go_simp; try with_reducible rfl
            refine tp 6 ?_ rfl (.inl ⟨by rfl, ?_⟩) ?_
            rotate_left
            · intro W hSw; obtain ⟨f0, f1, f2, x0, x1, x2, x3⟩ := FQ.out W hSw; go_simp; try with_reducible rfl
            refine a1 7 rfl (fun K hK => ?_)
            go_simp
            refine (HMR.out _ hHeld).mono ?_; rintro e9 w5 ⟨rfl, rfl⟩
            go_wp2_with fail
            refine hK.out _ _ (hHeld) (fun hHeldn => ?_)
            clear hK K hHeld; have hHeld := hHeldn; clear hHeldn
            try simp only [Act.put, List.setIfInBounds_toArray, List.set_cons_zero, List.set_cons_succ]
            refine tp 8 ?_ rfl (.inl ⟨by rfl, ?_⟩) ?_
            rotate_left
            · intro W hSw; go_simp; try with_reducible rfl
            refine tp 9 ?_ rfl (.inl ⟨by rfl, ?_⟩) ?_
            rotate_left
            · intro W hSw; go_simp; try with_reducible rfl
            refine tp 10 ?_ rfl (.inl ⟨by rfl, ?_⟩) ?_
            rotate_left
            · intro W hSw; go_simp; try with_reducible rfl
            refine tn 11 rfl ?_
            refine tn 12 rfl ?_
            refine tn 13 rfl ?_
            refine tn 14 rfl ?_
            refine tp 15 ?_ rfl (.inl ⟨by rfl, ?_⟩) ?_
            rotate_left
            · intro W hSw; go_simp; try with_reducible rfl
            refine tp 16 ?_ rfl (.inl ⟨by rfl, ?_⟩) ?_
            rotate_left
            · intro W hSw; go_simp; try with_reducible rfl
            refine tn 17 rfl ?_
            refine tn 18 rfl ?_
            refine tn 19 rfl ?_
            refine tn 20 rfl ?_
            refine tn 21 rfl ?_
            refine tn 22 rfl ?_
            refine tp 23 ?_ rfl (.inl ⟨by rfl, ?_⟩) ?_
            rotate_left
            · intro W hSw; go_simp; try with_reducible rfl
            refine tp 24 ?_ rfl (.inl ⟨by rfl, ?_⟩) ?_
            rotate_left
            · intro W hSw; go_simp; try with_reducible rfl
            refine tn 25 rfl ?_
            refine tn 26 rfl ?_
            refine tn 27 rfl ?_
            refine tn 28 rfl ?_
            refine tn 29 rfl ?_
            refine tn 30 rfl ?_
            refine tn 31 rfl ?_
            refine tn 32 rfl ?_
            refine tn 33 rfl ?_
            refine tn 34 rfl ?_
            refine tn 35 rfl ?_
            refine tn 36 rfl ?_
            refine tn 37 rfl ?_
            refine tn 38 rfl ?_
            refine tn 39 rfl ?_
            refine tn 40 rfl ?_
            refine tn 41 rfl ?_
            refine tn 42 rfl ?_
            refine tn 43 rfl ?_
            refine tp 44 ?_ rfl (.inl ⟨by rfl, ?_⟩) ?_
            rotate_left
            · intro W hSw; go_simp; try with_reducible rfl
            refine wpAnyH_done (by kernel_rfl) ?_ _
            skip
            refine hKK _ _ ?_
            have HX := Lib.hid (ck_no_row HTT.out HXX.out (okR_st HXX.out (by rw [HSB.out]; simp)))
            have HBZ := Lib.hid (step_below HB0.out (step_below HB2.out hHeld))
            clear hKK hHeld
            go_wp2_with fail
            go_ret
            exact ⟨by rw [ckE_no HX.out]; rfl, HBZ.out⟩
          | true =>
          cases mt with
          | false =>
            refine Code.wp_mono (Q := Exit.then KK (fun _ _ _ => False)) (fun e a' w' h => by cases e <;> first | exact h | exact h.elim) ?_
            refine wp_region_held_drew (S := (fun X => Below W2.heap.size W2 X)) (by kernel_rfl) ((Below.refl _ _).drew) (fun hHeld => ?_)
            refine tp 0 ?_ rfl (.inl ⟨by rfl, ?_⟩) ?_
            rotate_left
            · intro W hSw; go_simp; try with_reducible rfl
            refine tp 1 ?_ rfl (.inl ⟨by rfl, ?_⟩) ?_
            rotate_left
            · intro W hSw; obtain ⟨f0, f1, f2, x0, x1, x2, x3⟩ := FQ.out W hSw; go_simp; try with_reducible rfl
            refine a1 2 rfl (fun K hK => ?_)
            go_simp
            refine (HMK.out _).mono ?_; rintro e9 w4 ⟨rfl, rfl⟩
            go_wp2_with fail
            refine hK.out _ _ (hHeld) (fun hHeldn => ?_)
            clear hK K hHeld; have hHeld := hHeldn; clear hHeldn
            try simp only [Act.put, List.setIfInBounds_toArray, List.set_cons_zero, List.set_cons_succ]
            refine tp 3 ?_ rfl (.inl ⟨by rfl, ?_⟩) ?_
            rotate_left
            · intro W hSw; go_simp; try with_reducible rfl
            refine tp 4 ?_ rfl (.inl ⟨by rfl, ?_⟩) ?_
            rotate_left
            · intro W hSw; go_simp; try with_reducible rfl
            refine tp 5 ?_ rfl (.inl ⟨by rfl, ?_⟩) ?_
            rotate_left
            · intro W hSw; go_simp; try with_reducible rfl
            refine tp 6 ?_ rfl (.inl ⟨by rfl, ?_⟩) ?_
            rotate_left
            · intro W hSw; obtain ⟨f0, f1, f2, x0, x1, x2, x3⟩ := FQ.out W hSw; go_simp; try with_reducible rfl
            refine a1 7 rfl (fun K hK => ?_)
            go_simp
            refine (HMR.out _ hHeld).mono ?_; rintro e9 w5 ⟨rfl, rfl⟩
            go_wp2_with fail
            refine hK.out _ _ (hHeld) (fun hHeldn => ?_)
            clear hK K hHeld; have hHeld := hHeldn; clear hHeldn
            try simp only [Act.put, List.setIfInBounds_toArray, List.set_cons_zero, List.set_cons_succ]
            refine tp 8 ?_ rfl (.inl ⟨by rfl, ?_⟩) ?_
            rotate_left
            · intro W hSw; go_simp; try with_reducible rfl
            refine tp 9 ?_ rfl (.inl ⟨by rfl, ?_⟩) ?_
            rotate_left
            · intro W hSw; go_simp; try with_reducible rfl
            refine tp 10 ?_ rfl (.inl ⟨by rfl, ?_⟩) ?_
            rotate_left
            · intro W hSw; go_simp; try with_reducible rfl
            refine tp 11 ?_ rfl (.inl ⟨by rfl, ?_⟩) ?_
            rotate_left
            · intro W hSw; go_simp; try with_reducible rfl
            refine tp 12 ?_ rfl (.inl ⟨by rfl, ?_⟩) ?_
            rotate_left
            · intro W hSw; obtain ⟨f0, f1, f2, x0, x1, x2, x3⟩ := FQ.out W hSw; go_simp; try with_reducible rfl
            refine a1 13 rfl (fun K hK => ?_)
            go_simp
            refine (HMT.out _).mono ?_; rintro e9 w6 ⟨rfl, hb6⟩
            go_wp2_with fail
            refine hK.out _ _ (step_below hHeld hb6) (fun hHeldn => ?_)
            clear hK K hHeld; have hHeld := hHeldn; clear hHeldn
            clear hb6
            try simp only [Act.put, List.setIfInBounds_toArray, List.set_cons_zero, List.set_cons_succ]
            refine tp 14 ?_ rfl (.inl ⟨by rfl, ?_⟩) ?_
            rotate_left
            · intro W hSw; go_simp; try with_reducible rfl
            refine tp 15 ?_ rfl (.inl ⟨by rfl, ?_⟩) ?_
            rotate_left
            · intro W hSw; go_simp; try with_reducible rfl
            refine tp 16 ?_ rfl (.inl ⟨by rfl, ?_⟩) ?_
            rotate_left
            · intro W hSw; go_simp; try with_reducible rfl
            refine tn 17 rfl ?_
            refine tn 18 rfl ?_
            refine tn 19 rfl ?_
            refine tn 20 rfl ?_
            refine tn 21 rfl ?_
            refine tn 22 rfl ?_
            refine tp 23 ?_ rfl (.inl ⟨by rfl, ?_⟩) ?_
            rotate_left
            · intro W hSw; go_simp; try with_reducible rfl
            refine tp 24 ?_ rfl (.inl ⟨by rfl, ?_⟩) ?_
            rotate_left
            · intro W hSw; go_simp; try with_reducible rfl
            refine tn 25 rfl ?_
            refine tn 26 rfl ?_
            refine tn 27 rfl ?_
            refine tn 28 rfl ?_
            refine tn 29 rfl ?_
            refine tn 30 rfl ?_
            refine tn 31 rfl ?_
            refine tn 32 rfl ?_
            refine tn 33 rfl ?_
            refine tn 34 rfl ?_
            refine tn 35 rfl ?_
            refine tn 36 rfl ?_
            refine tn 37 rfl ?_
            refine tn 38 rfl ?_
            refine tn 39 rfl ?_
            refine tn 40 rfl ?_
            refine tn 41 rfl ?_
            refine tn 42 rfl ?_
            refine tn 43 rfl ?_
            refine tp 44 ?_ rfl (.inl ⟨by rfl, ?_⟩) ?_
            rotate_left
            · intro W hSw; go_simp; try with_reducible rfl
            refine wpAnyH_done (by kernel_rfl) ?_ _
            skip
            refine hKK _ _ ?_
            have HX := Lib.hid (ck_no_row HTT.out HXX.out (okR_st HXX.out (by rw [HSB.out]; simp)))
            have HBZ := Lib.hid (step_below HB0.out (step_below HB2.out hHeld))
            clear hKK hHeld
            go_wp2_with fail
            go_ret
            exact ⟨by rw [ckE_no HX.out]; rfl, HBZ.out⟩
          | true =>
          by_cases hle : e < xe
          · have d3 : decide (e < xe) = true := by simpa using hle
            refine Code.wp_mono (Q := Exit.then KK (fun _ _ _ => False)) (fun e a' w' h => by cases e <;> first | exact h | exact h.elim) ?_
            refine wp_region_held_drew (S := (fun X => Below W2.heap.size W2 X)) (by kernel_rfl) ((Below.refl _ _).drew) (fun hHeld => ?_)
            refine tp 0 ?_ rfl (.inl ⟨by rfl, ?_⟩) ?_
            rotate_left
            · intro W hSw; go_simp; try with_reducible rfl
            refine tp 1 ?_ rfl (.inl ⟨by rfl, ?_⟩) ?_
            rotate_left
            · intro W hSw; obtain ⟨f0, f1, f2, x0, x1, x2, x3⟩ := FQ.out W hSw; go_simp; try with_reducible rfl
            refine a1 2 rfl (fun K hK => ?_)
            go_simp
            refine (HMK.out _).mono ?_; rintro e9 w4 ⟨rfl, rfl⟩
            go_wp2_with fail
            refine hK.out _ _ (hHeld) (fun hHeldn => ?_)
            clear hK K hHeld; have hHeld := hHeldn; clear hHeldn
            try simp only [Act.put, List.setIfInBounds_toArray, List.set_cons_zero, List.set_cons_succ]
            refine tp 3 ?_ rfl (.inl ⟨by rfl, ?_⟩) ?_
            rotate_left
            · intro W hSw; go_simp; try with_reducible rfl
            refine tp 4 ?_ rfl (.inl ⟨by rfl, ?_⟩) ?_
            rotate_left
            · intro W hSw; go_simp; try with_reducible rfl
            refine tp 5 ?_ rfl (.inl ⟨by rfl, ?_⟩) ?_
            rotate_left
            · intro W hSw; go_simp; try with_reducible rfl
            refine tp 6 ?_ rfl (.inl ⟨by rfl, ?_⟩) ?_
            rotate_left
            · intro W hSw; obtain ⟨f0, f1, f2, x0, x1, x2, x3⟩ := FQ.out W hSw; go_simp; try with_reducible rfl
            refine a1 7 rfl (fun K hK => ?_)
            go_simp
            refine (HMR.out _ hHeld).mono ?_; rintro e9 w5 ⟨rfl, rfl⟩
            go_wp2_with fail
            refine hK.out _ _ (hHeld) (fun hHeldn => ?_)
            clear hK K hHeld; have hHeld := hHeldn; clear hHeldn
            try simp only [Act.put, List.setIfInBounds_toArray, List.set_cons_zero, List.set_cons_succ]
            refine tp 8 ?_ rfl (.inl ⟨by rfl, ?_⟩) ?_
            rotate_left
            · intro W hSw; go_simp; try with_reducible rfl
            refine tp 9 ?_ rfl (.inl ⟨by rfl, ?_⟩) ?_
            rotate_left
            · intro W hSw; go_simp; try with_reducible rfl
            refine tp 10 ?_ rfl (.inl ⟨by rfl, ?_⟩) ?_
            rotate_left
            · intro W hSw; go_simp; try with_reducible rfl
            refine tp 11 ?_ rfl (.inl ⟨by rfl, ?_⟩) ?_
            rotate_left
            · intro W hSw; go_simp; try with_reducible rfl
            refine tp 12 ?_ rfl (.inl ⟨by rfl, ?_⟩) ?_
            rotate_left
            · intro W hSw; obtain ⟨f0, f1, f2, x0, x1, x2, x3⟩ := FQ.out W hSw; go_simp; try with_reducible rfl
            refine a1 13 rfl (fun K hK => ?_)
            go_simp
            refine (HMT.out _).mono ?_; rintro e9 w6 ⟨rfl, hb6⟩
            go_wp2_with fail
            refine hK.out _ _ (step_below hHeld hb6) (fun hHeldn => ?_)
            clear hK K hHeld; have hHeld := hHeldn; clear hHeldn
            clear hb6
            try simp only [Act.put, List.setIfInBounds_toArray, List.set_cons_zero, List.set_cons_succ]
            refine tp 14 ?_ rfl (.inl ⟨by rfl, ?_⟩) ?_
            rotate_left
            · intro W hSw; go_simp; try with_reducible rfl
            refine tp 15 ?_ rfl (.inl ⟨by rfl, ?_⟩) ?_
            rotate_left
            · intro W hSw; go_simp; try with_reducible rfl
            refine tp 16 ?_ rfl (.inl ⟨by rfl, ?_⟩) ?_
            rotate_left
            · intro W hSw; go_simp; try with_reducible rfl
            refine tp 17 ?_ rfl (.inl ⟨by rfl, ?_⟩) ?_
            rotate_left
            · intro W hSw; go_simp; try with_reducible rfl
            refine tp 18 ?_ rfl (.inl ⟨by rfl, ?_⟩) ?_
            rotate_left
            · intro W hSw; go_simp; try with_reducible rfl
            refine tp 19 ?_ rfl (.inl ⟨by rfl, ?_⟩) ?_
            rotate_left
            · intro W hSw; obtain ⟨f0, f1, f2, x0, x1, x2, x3⟩ := FQ.out W hSw; go_simp; try with_reducible rfl
            refine tp 20 ?_ rfl (.inl ⟨by rfl, ?_⟩) ?_
            rotate_left
            · intro W hSw; go_simp; try with_reducible rfl
            refine tp 21 ?_ rfl (.inl ⟨by rfl, ?_⟩) ?_
            rotate_left
            · intro W hSw; obtain ⟨f0, f1, f2, x0, x1, x2, x3⟩ := FQ.out W hSw; go_simp; try with_reducible rfl
            refine tp 22 (.bool true) rfl (.inl ⟨by rfl, ?_⟩) ?_
            · intro W hSw; go_simp; try simp [d3]
            refine tp 23 ?_ rfl (.inl ⟨by rfl, ?_⟩) ?_
            rotate_left
            · intro W hSw; go_simp; try with_reducible rfl
            refine tp 24 ?_ rfl (.inl ⟨by rfl, ?_⟩) ?_
            rotate_left
            · intro W hSw; go_simp; try with_reducible rfl
            refine tn 25 rfl ?_
            refine tn 26 rfl ?_
            refine tn 27 rfl ?_
            refine tn 28 rfl ?_
            refine tn 29 rfl ?_
            refine tn 30 rfl ?_
            refine tn 31 rfl ?_
            refine tn 32 rfl ?_
            refine tn 33 rfl ?_
            refine tn 34 rfl ?_
            refine tn 35 rfl ?_
            refine tn 36 rfl ?_
            refine tn 37 rfl ?_
            refine tn 38 rfl ?_
            refine tn 39 rfl ?_
            refine tn 40 rfl ?_
            refine tn 41 rfl ?_
            refine tn 42 rfl ?_
            refine tn 43 rfl ?_
            refine tp 44 ?_ rfl (.inl ⟨by rfl, ?_⟩) ?_
            rotate_left
            · intro W hSw; go_simp; try with_reducible rfl
            refine wpAnyH_done (by kernel_rfl) ?_ _
            skip
            refine hKK _ _ ?_
            have HX := Lib.hid (ck_no_row HTT.out HXX.out (okR_st HXX.out (by rw [HSB.out, decide_eq_false (by omega)]; rfl)))
            have HBZ := Lib.hid (step_below HB0.out (step_below HB2.out hHeld))
            clear hKK hHeld
            go_wp2_with fail
            go_ret
            exact ⟨by rw [ckE_no HX.out]; rfl, HBZ.out⟩
          have d3 : decide (e < xe) = false := by simpa using hle
          have HS1 := Lib.hid (show stB e x = true by rw [HSB.out, decide_eq_true (by omega)]; rfl)
          by_cases hl0 : l = 0
          · have d4 : decide ((0 : Int) < (l : Int)) = false := by simp; omega
            have HNXT := Lib.hid (show okR e t.xs (l + 1) = true by
              have h1 := HXX.out
              subst hl0
              rw [okR_first h1, HS1.out])
            have HL0 := Lib.hid hl0
            clear hl0 hle
            refine Code.wp_mono (Q := Exit.then KK (fun _ _ _ => False)) (fun e a' w' h => by cases e <;> first | exact h | exact h.elim) ?_
            refine wp_region_held_drew (S := (fun X => Below W2.heap.size W2 X)) (by kernel_rfl) ((Below.refl _ _).drew) (fun hHeld => ?_)
            refine tp 0 ?_ rfl (.inl ⟨by rfl, ?_⟩) ?_
            rotate_left
            · intro W hSw; go_simp; try with_reducible rfl
            refine tp 1 ?_ rfl (.inl ⟨by rfl, ?_⟩) ?_
            rotate_left
            · intro W hSw; obtain ⟨f0, f1, f2, x0, x1, x2, x3⟩ := FQ.out W hSw; go_simp; try with_reducible rfl
            refine a1 2 rfl (fun K hK => ?_)
            go_simp
            refine (HMK.out _).mono ?_; rintro e9 w4 ⟨rfl, rfl⟩
            go_wp2_with fail
            refine hK.out _ _ (hHeld) (fun hHeldn => ?_)
            clear hK K hHeld; have hHeld := hHeldn; clear hHeldn
            try simp only [Act.put, List.setIfInBounds_toArray, List.set_cons_zero, List.set_cons_succ]
            refine tp 3 ?_ rfl (.inl ⟨by rfl, ?_⟩) ?_
            rotate_left
            · intro W hSw; go_simp; try with_reducible rfl
            refine tp 4 ?_ rfl (.inl ⟨by rfl, ?_⟩) ?_
            rotate_left
            · intro W hSw; go_simp; try with_reducible rfl
            refine tp 5 ?_ rfl (.inl ⟨by rfl, ?_⟩) ?_
            rotate_left
            · intro W hSw; go_simp; try with_reducible rfl
            refine tp 6 ?_ rfl (.inl ⟨by rfl, ?_⟩) ?_
            rotate_left
            · intro W hSw; obtain ⟨f0, f1, f2, x0, x1, x2, x3⟩ := FQ.out W hSw; go_simp; try with_reducible rfl
            refine a1 7 rfl (fun K hK => ?_)
            go_simp
            refine (HMR.out _ hHeld).mono ?_; rintro e9 w5 ⟨rfl, rfl⟩
            go_wp2_with fail
            refine hK.out _ _ (hHeld) (fun hHeldn => ?_)
            clear hK K hHeld; have hHeld := hHeldn; clear hHeldn
            try simp only [Act.put, List.setIfInBounds_toArray, List.set_cons_zero, List.set_cons_succ]
            refine tp 8 ?_ rfl (.inl ⟨by rfl, ?_⟩) ?_
            rotate_left
            · intro W hSw; go_simp; try with_reducible rfl
            refine tp 9 ?_ rfl (.inl ⟨by rfl, ?_⟩) ?_
            rotate_left
            · intro W hSw; go_simp; try with_reducible rfl
            refine tp 10 ?_ rfl (.inl ⟨by rfl, ?_⟩) ?_
            rotate_left
            · intro W hSw; go_simp; try with_reducible rfl
            refine tp 11 ?_ rfl (.inl ⟨by rfl, ?_⟩) ?_
            rotate_left
            · intro W hSw; go_simp; try with_reducible rfl
            refine tp 12 ?_ rfl (.inl ⟨by rfl, ?_⟩) ?_
            rotate_left
            · intro W hSw; obtain ⟨f0, f1, f2, x0, x1, x2, x3⟩ := FQ.out W hSw; go_simp; try with_reducible rfl
            refine a1 13 rfl (fun K hK => ?_)
            go_simp
            refine (HMT.out _).mono ?_; rintro e9 w6 ⟨rfl, hb6⟩
            go_wp2_with fail
            refine hK.out _ _ (step_below hHeld hb6) (fun hHeldn => ?_)
            clear hK K hHeld; have hHeld := hHeldn; clear hHeldn
            clear hb6
            try simp only [Act.put, List.setIfInBounds_toArray, List.set_cons_zero, List.set_cons_succ]
            refine tp 14 ?_ rfl (.inl ⟨by rfl, ?_⟩) ?_
            rotate_left
            · intro W hSw; go_simp; try with_reducible rfl
            refine tp 15 ?_ rfl (.inl ⟨by rfl, ?_⟩) ?_
            rotate_left
            · intro W hSw; go_simp; try with_reducible rfl
            refine tp 16 ?_ rfl (.inl ⟨by rfl, ?_⟩) ?_
            rotate_left
            · intro W hSw; go_simp; try with_reducible rfl
            refine tp 17 ?_ rfl (.inl ⟨by rfl, ?_⟩) ?_
            rotate_left
            · intro W hSw; go_simp; try with_reducible rfl
            refine tp 18 ?_ rfl (.inl ⟨by rfl, ?_⟩) ?_
            rotate_left
            · intro W hSw; go_simp; try with_reducible rfl
            refine tp 19 ?_ rfl (.inl ⟨by rfl, ?_⟩) ?_
            rotate_left
            · intro W hSw; obtain ⟨f0, f1, f2, x0, x1, x2, x3⟩ := FQ.out W hSw; go_simp; try with_reducible rfl
            refine tp 20 ?_ rfl (.inl ⟨by rfl, ?_⟩) ?_
            rotate_left
            · intro W hSw; go_simp; try with_reducible rfl
            refine tp 21 ?_ rfl (.inl ⟨by rfl, ?_⟩) ?_
            rotate_left
            · intro W hSw; obtain ⟨f0, f1, f2, x0, x1, x2, x3⟩ := FQ.out W hSw; go_simp; try with_reducible rfl
            refine tp 22 (.bool false) rfl (.inl ⟨by rfl, ?_⟩) ?_
            · intro W hSw; go_simp; try simp [d3]
            refine tp 23 ?_ rfl (.inl ⟨by rfl, ?_⟩) ?_
            rotate_left
            · intro W hSw; go_simp; try with_reducible rfl
            refine tp 24 ?_ rfl (.inl ⟨by rfl, ?_⟩) ?_
            rotate_left
            · intro W hSw; go_simp; try with_reducible rfl
            refine tp 25 ?_ rfl (.inl ⟨by rfl, ?_⟩) ?_
            rotate_left
            · intro W hSw; go_simp; try with_reducible rfl
            refine tp 26 (.bool false) rfl (.inl ⟨by rfl, ?_⟩) ?_
            · intro W hSw; go_simp; try (first | exact HL0.out | simp [d4])
            refine tp 27 ?_ rfl (.inl ⟨by rfl, ?_⟩) ?_
            rotate_left
            · intro W hSw; go_simp; try with_reducible rfl
            refine tn 28 rfl ?_
            refine tn 29 rfl ?_
            refine tn 30 rfl ?_
            refine tn 31 rfl ?_
            refine tn 32 rfl ?_
            refine tn 33 rfl ?_
            refine tn 34 rfl ?_
            refine tn 35 rfl ?_
            refine tn 36 rfl ?_
            refine tn 37 rfl ?_
            refine tn 38 rfl ?_
            refine tn 39 rfl ?_
            refine tn 40 rfl ?_
            refine tn 41 rfl ?_
            refine tn 42 rfl ?_
            refine tp 43 ?_ rfl (.inl ⟨by rfl, ?_⟩) ?_
            rotate_left
            · intro W hSw; go_simp; try with_reducible rfl
            refine tp 44 ?_ rfl (.inl ⟨by rfl, ?_⟩) ?_
            rotate_left
            · intro W hSw; go_simp; try with_reducible rfl
            refine wpAnyH_done (by kernel_rfl) ?_ _
            skip
            refine hKK _ _ ?_
            have HBN := Lib.hid (step_below HB2.out hHeld)
            clear hKK hHeld FQ
            go_wp2_with fail
            go_roundw
            case rel => exact ⟨l + 1, by omega, by go_num, HNXT, HBN⟩
            case measure => simp [intOf]; omega
          have d4 : decide ((0 : Int) < (l : Int)) = true := by simp; omega
          obtain ⟨j, hj⟩ : ∃ j, l = j + 1 := ⟨l - 1, by omega⟩
          have hkj : IntKind.i64.wrap ((l : Int) - 1) = (j : Int) := by rw [IntKind.wrap_i64]; omega
          have hjn : (j : Int) < (m : Int) := by omega
          obtain ⟨y, hy⟩ : ∃ y, t.xs[j]? = some y := ⟨_, List.getElem?_eq_getElem (by rw [HM.out]; omega)⟩
          obtain ⟨yl, hyl⟩ : ∃ z, y.key.length = z := ⟨_, rfl⟩
          obtain ⟨ya, hya⟩ : ∃ z, y.ka = z := ⟨_, rfl⟩
          obtain ⟨yc, hyc⟩ : ∃ z, y.kc = z := ⟨_, rfl⟩
          have HYC := Lib.hid (fun W (b : Below W2.heap.size W2 W) => (by
            obtain ⟨_, _, ea, c0, _, _, _, oky⟩ := (HST.out.below (step_below HB3.out b)) j y hy
            rw [HTA.out] at ea
            cases ea
            rw [hya, hyl, hyc] at c0
            exact ⟨c0, oky⟩ : W.cell? ⟨bx, ox + j * 4, none⟩ = some (.slice ya yl yc) ∧ StOk W y))
          have FL := Lib.hid (fun W (b : Below W2.heap.size W2 W) => (HYC.out W b).1)
          have HCV := Lib.hid (fun W (b : Below W2.heap.size W2 W) => (by
            have h1 := conv_ls W y.ka y.key.length y.kc y.key rfl (HYC.out W b).2.ls.rd
            have h2 := conv_ls W x.ka x.key.length x.kc x.key rfl (HOKX.out.ls.below (step_below HB3.out b)).rd
            rw [hya, hyl, hyc] at h1
            rw [HXE.out.1, HXE.out.2.1, HXE.out.2.2] at h2
            exact ⟨h1, h2⟩ : (convert 22 9 (.slice ya yl yc)).run Tryz.prog W = .ok (.string (strOfNums y.key)) W ∧ (convert 22 9 (.slice xa xl xc)).run Tryz.prog W = .ok (.string (strOfNums x.key)) W))
          have HLS := Lib.hid (less_str (HYC.out W2 (Below.refl _ _)).2.kb HOKX.out.kb)
          obtain ⟨q, hq⟩ : ∃ q, Op.bytesLess (strOfNums y.key).toList (strOfNums x.key).toList = q := ⟨_, rfl⟩
          have HNXT := Lib.hid (show okR e t.xs (l + 1) = q by
            rw [okR_next (l := y) (by omega) HXX.out (by rw [hj]; exact hy), HOL.out, HS1.out, ← HLS.out, hq]; rfl)
          generalize strOfNums y.key = sy at hq HCV
          generalize strOfNums x.key = sx at hq HCV
          have HL0 := Lib.hid (show 0 < l by omega)
          clear hl0 hj hy hyl hya hyc HYC HLS hle
          refine Code.wp_mono (Q := Exit.then KK (fun _ _ _ => False)) (fun e a' w' h => by cases e <;> first | exact h | exact h.elim) ?_
          refine wp_region_held_drew (S := (fun X => Below W2.heap.size W2 X)) (by kernel_rfl) ((Below.refl _ _).drew) (fun hHeld => ?_)
          refine tp 0 ?_ rfl (.inl ⟨by rfl, ?_⟩) ?_
          rotate_left
          · intro W hSw; go_simp; try with_reducible rfl
          refine tp 1 ?_ rfl (.inl ⟨by rfl, ?_⟩) ?_
          rotate_left
          · intro W hSw; obtain ⟨f0, f1, f2, x0, x1, x2, x3⟩ := FQ.out W hSw; go_simp; try with_reducible rfl
          refine a1 2 rfl (fun K hK => ?_)
          go_simp
          refine (HMK.out _).mono ?_; rintro e9 w4 ⟨rfl, rfl⟩
          go_wp2_with fail
          refine hK.out _ _ (hHeld) (fun hHeldn => ?_)
          clear hK K hHeld; have hHeld := hHeldn; clear hHeldn
          try simp only [Act.put, List.setIfInBounds_toArray, List.set_cons_zero, List.set_cons_succ]
          refine tp 3 ?_ rfl (.inl ⟨by rfl, ?_⟩) ?_
          rotate_left
          · intro W hSw; go_simp; try with_reducible rfl
          refine tp 4 ?_ rfl (.inl ⟨by rfl, ?_⟩) ?_
          rotate_left
          · intro W hSw; go_simp; try with_reducible rfl
          refine tp 5 ?_ rfl (.inl ⟨by rfl, ?_⟩) ?_
          rotate_left
          · intro W hSw; go_simp; try with_reducible rfl
          refine tp 6 ?_ rfl (.inl ⟨by rfl, ?_⟩) ?_
          rotate_left
          · intro W hSw; obtain ⟨f0, f1, f2, x0, x1, x2, x3⟩ := FQ.out W hSw; go_simp; try with_reducible rfl
          refine a1 7 rfl (fun K hK => ?_)
          go_simp
          refine (HMR.out _ hHeld).mono ?_; rintro e9 w5 ⟨rfl, rfl⟩
          go_wp2_with fail
          refine hK.out _ _ (hHeld) (fun hHeldn => ?_)
          clear hK K hHeld; have hHeld := hHeldn; clear hHeldn
          try simp only [Act.put, List.setIfInBounds_toArray, List.set_cons_zero, List.set_cons_succ]
          refine tp 8 ?_ rfl (.inl ⟨by rfl, ?_⟩) ?_
          rotate_left
          · intro W hSw; go_simp; try with_reducible rfl
          refine tp 9 ?_ rfl (.inl ⟨by rfl, ?_⟩) ?_
          rotate_left
          · intro W hSw; go_simp; try with_reducible rfl
          refine tp 10 ?_ rfl (.inl ⟨by rfl, ?_⟩) ?_
          rotate_left
          · intro W hSw; go_simp; try with_reducible rfl
          refine tp 11 ?_ rfl (.inl ⟨by rfl, ?_⟩) ?_
          rotate_left
          · intro W hSw; go_simp; try with_reducible rfl
          refine tp 12 ?_ rfl (.inl ⟨by rfl, ?_⟩) ?_
          rotate_left
          · intro W hSw; obtain ⟨f0, f1, f2, x0, x1, x2, x3⟩ := FQ.out W hSw; go_simp; try with_reducible rfl
          refine a1 13 rfl (fun K hK => ?_)
          go_simp
          refine (HMT.out _).mono ?_; rintro e9 w6 ⟨rfl, hb6⟩
          go_wp2_with fail
          refine hK.out _ _ (step_below hHeld hb6) (fun hHeldn => ?_)
          clear hK K hHeld; have hHeld := hHeldn; clear hHeldn
          clear hb6
          try simp only [Act.put, List.setIfInBounds_toArray, List.set_cons_zero, List.set_cons_succ]
          refine tp 14 ?_ rfl (.inl ⟨by rfl, ?_⟩) ?_
          rotate_left
          · intro W hSw; go_simp; try with_reducible rfl
          refine tp 15 ?_ rfl (.inl ⟨by rfl, ?_⟩) ?_
          rotate_left
          · intro W hSw; go_simp; try with_reducible rfl
          refine tp 16 ?_ rfl (.inl ⟨by rfl, ?_⟩) ?_
          rotate_left
          · intro W hSw; go_simp; try with_reducible rfl
          refine tp 17 ?_ rfl (.inl ⟨by rfl, ?_⟩) ?_
          rotate_left
          · intro W hSw; go_simp; try with_reducible rfl
          refine tp 18 ?_ rfl (.inl ⟨by rfl, ?_⟩) ?_
          rotate_left
          · intro W hSw; go_simp; try with_reducible rfl
          refine tp 19 ?_ rfl (.inl ⟨by rfl, ?_⟩) ?_
          rotate_left
          · intro W hSw; obtain ⟨f0, f1, f2, x0, x1, x2, x3⟩ := FQ.out W hSw; go_simp; try with_reducible rfl
          refine tp 20 ?_ rfl (.inl ⟨by rfl, ?_⟩) ?_
          rotate_left
          · intro W hSw; go_simp; try with_reducible rfl
          refine tp 21 ?_ rfl (.inl ⟨by rfl, ?_⟩) ?_
          rotate_left
          · intro W hSw; obtain ⟨f0, f1, f2, x0, x1, x2, x3⟩ := FQ.out W hSw; go_simp; try with_reducible rfl
          refine tp 22 (.bool false) rfl (.inl ⟨by rfl, ?_⟩) ?_
          · intro W hSw; go_simp; try simp [d3]
          refine tp 23 ?_ rfl (.inl ⟨by rfl, ?_⟩) ?_
          rotate_left
          · intro W hSw; go_simp; try with_reducible rfl
          refine tp 24 ?_ rfl (.inl ⟨by rfl, ?_⟩) ?_
          rotate_left
          · intro W hSw; go_simp; try with_reducible rfl
          refine tp 25 ?_ rfl (.inl ⟨by rfl, ?_⟩) ?_
          rotate_left
          · intro W hSw; go_simp; try with_reducible rfl
          refine tp 26 (.bool true) rfl (.inl ⟨by rfl, ?_⟩) ?_
          · intro W hSw; go_simp; try (first | exact HL0.out | simp [d4])
          refine tp 27 ?_ rfl (.inl ⟨by rfl, ?_⟩) ?_
          rotate_left
          · intro W hSw; go_simp; try with_reducible rfl
          refine tp 28 ?_ rfl (.inl ⟨by rfl, ?_⟩) ?_
          rotate_left
          · intro W hSw; go_simp; try with_reducible rfl
          refine tp 29 ?_ rfl (.inl ⟨by rfl, ?_⟩) ?_
          rotate_left
          · intro W hSw; obtain ⟨f0, f1, f2, x0, x1, x2, x3⟩ := FQ.out W hSw; go_simp; try with_reducible rfl
          refine tp 30 ?_ rfl (.inl ⟨by rfl, ?_⟩) ?_
          rotate_left
          · intro W hSw; go_simp; try with_reducible rfl
          refine tp 31 ?_ rfl (.inl ⟨by rfl, ?_⟩) ?_
          rotate_left
          · intro W hSw; go_simp; try with_reducible rfl
          refine tp 32 ?_ rfl (.inl ⟨by rfl, ?_⟩) ?_
          rotate_left
          · intro W hSw; obtain ⟨f0, f1, f2, x0, x1, x2, x3⟩ := FQ.out W hSw; go_simp; try with_reducible rfl
          refine tp 33 ?_ rfl (.inl ⟨by rfl, ?_⟩) ?_
          rotate_left
          · intro W hSw; go_simp; try with_reducible rfl
          refine tp 34 ?_ rfl (.inl ⟨by rfl, ?_⟩) ?_
          rotate_left
          · intro W hSw; go_simp; try with_reducible rfl
          refine tp 35 ?_ rfl (.inl ⟨by rfl, ?_⟩) ?_
          rotate_left
          · intro W hSw; go_simp; try with_reducible rfl
          refine tp 36 ?_ rfl (.inl ⟨by rfl, ?_⟩) ?_
          rotate_left
          · intro W hSw; go_simp; try with_reducible rfl
          refine tp 37 ?_ rfl (.inl ⟨by rfl, ?_⟩) ?_
          rotate_left
          · intro W hSw; obtain ⟨f0, f1, f2, x0, x1, x2, x3⟩ := FQ.out W hSw; have l0 := FL.out W hSw; go_simp; try with_reducible rfl
          refine tp 38 ?_ rfl (.inl ⟨by rfl, ?_⟩) ?_
          rotate_left
          · intro W hSw; have hcv := (HCV.out W hSw).1; go_simp; try with_reducible rfl
          refine tp 39 ?_ rfl (.inl ⟨by rfl, ?_⟩) ?_
          rotate_left
          · intro W hSw; go_simp; try with_reducible rfl
          refine tp 40 ?_ rfl (.inl ⟨by rfl, ?_⟩) ?_
          rotate_left
          · intro W hSw; obtain ⟨f0, f1, f2, x0, x1, x2, x3⟩ := FQ.out W hSw; go_simp; try with_reducible rfl
          refine tp 41 ?_ rfl (.inl ⟨by rfl, ?_⟩) ?_
          rotate_left
          · intro W hSw; have hcv := (HCV.out W hSw).2; go_simp; try with_reducible rfl
          refine tp 42 (.bool (!q)) rfl (.inl ⟨by rfl, ?_⟩) ?_
          · intro W hSw; go_simp; try simp [hq]
          refine tp 43 ?_ rfl (.inl ⟨by rfl, ?_⟩) ?_
          rotate_left
          · intro W hSw; go_simp; try with_reducible rfl
          refine tp 44 ?_ rfl (.inl ⟨by rfl, ?_⟩) ?_
          rotate_left
          · intro W hSw; go_simp; try with_reducible rfl
          refine wpAnyH_done (by kernel_rfl) ?_ _
          skip
          refine hKK _ _ ?_
          have HBN := Lib.hid (step_below HB2.out hHeld)
          clear hKK hHeld FQ FL HCV hq hkj
          cases q with
          | false =>
            have HX := Lib.hid (ck_no_row HTT.out HXX.out HNXT.out)
            have HBZ := Lib.hid (step_below HB0.out HBN.out)
            go_wp2_with fail
            go_ret
            exact ⟨by rw [ckE_no HX.out]; rfl, HBZ.out⟩
          | true =>
            go_wp2_with fail
            go_roundw
            case rel => exact ⟨l + 1, by omega, by go_num, HNXT, HBN⟩
            case measure => simp [intOf]; omega
        · have d2 : ¬ (l : Int) < (m : Int) := by omega
          obtain rfl : l = m := by omega
          have HNT := Lib.hid (show okT e ts (k + 1) = true by rw [okT_next HTT.out, HOK.out]; unfold tbB; rw [HM.out, HOL.out]; rfl)
          go_wp2_with fail
          go_roundw
          case rel => exact ⟨k + 1, by omega, by rw [HCM.out]; simp, by go_num, HNT, HBV⟩
          case measure => simp [intOf]; omega
    · have d1 : ¬ (k : Int) < (n : Int) := by omega
      obtain rfl : k = n := by omega
      have HX := Lib.hid (show ckB e ts = true by unfold ckB; rw [HN.out]; exact HOK.out)
      have HXC := Lib.hid (show cntT ts ts.length = cn by rw [HN.out]; exact HCN.out)
      have HBZ := Lib.hid (step_below HB0.out HBW.out)
      clear hcn
      by_cases hgt : 4096 < cn
      · have d3 : (4096 : Int) < (cn : Int) := by omega
        have HY := Lib.hid (show ckE e ts = 3 by unfold ckE; rw [HX.out, HXC.out, if_pos hgt]; rfl)
        clear hgt
        go_wp2_with fail
        go_ret
        exact ⟨by rw [HY.out]; rfl, HBZ.out⟩
      · have d3 : ¬ (4096 : Int) < (cn : Int) := by omega
        have HY := Lib.hid (show ckE e ts = 0 by unfold ckE; rw [HX.out, HXC.out, if_neg hgt]; rfl)
        clear hgt
        go_wp2_with fail
        go_ret
        exact ⟨by rw [HY.out]; rfl, HBZ.out⟩
end Go.Proofs.YtglkndoghnblcaaGreat
