/- known: the chapter's rows. Part 5. -/
import Derived.Test.YtglkndoghnblcaaGreatDoorOkb
import Derived.Sort.QuietIn
import Derived.Lib.SliceRun
import Derived.LoopIn
import Derived.TacticsInMore
import Derived.Shelf.Abstract
import Derived.Test.YtglkndoghnblcaaGreatDoorOkd
import Derived.OwnWalkIn
import Derived.Sort.CutIn
import Derived.Test.YtglkndoghnblcaaGreatDoorOka
namespace Go.Proofs.YtglkndoghnblcaaGreatDoor
open Go.ChangeShapes Go.WideShapes Go.ChangeAt Go.RowKit
set_option linter.unusedVariables false
set_option linter.unusedSimpArgs false
set_option maxRecDepth 100000 in
set_option maxHeartbeats 4000000 in
/-- bytes.Clone (114). -/
theorem clone_own (a : Option Addr) (L : List Int) (n cap : Nat) (hL : L.length = n) (hn : n ≤ 1000000) (w : World) (hA : Ls .u8 w a cap L) :
    Calls Tryz.prog 101 #[.slice a n cap] w fun r w' => ∃ a' c', r = .returned (.slice a' n c') ∧ Lsb w.heap.size w' a' c' L ∧ Below w.heap.size w w' := by
  have HA := Lib.hid hA
  have HL := Lib.hid hL
  rcases a with _ | a
  · obtain ⟨rfl, rfl⟩ := hA.nl rfl
    simp only [List.length_nil] at hL
    subst hL
    have hsn : ∀ W, (binOp .eql 54 (.slice none 0 0) (.slice none 0 0)).run Tryz.prog W = .ok (.bool true) W := fun W => Lib.run_eql_slice_nil W 54 5 none 0 0 0 0 Tryz.underlying54
    clear hA
    go_enter Tryz.func101, Tryz.ntmps101
    go_wp2_with fail
    go_ret
    exact ⟨none, 0, rfl, ⟨Ls.nul _ _, fun b e => by cases e⟩, Below.refl _ _⟩
  · clear hA hL
    have hsn : ∀ W, (binOp .eql 54 (.slice (some a) n cap) (.slice none 0 0)).run Tryz.prog W = .ok (.bool false) W := fun W => Lib.run_eql_slice_nil W 54 5 (some a) n cap 0 0 Tryz.underlying54
    go_enter Tryz.func101, Tryz.ntmps101
    go_wp2_with (at_builtin; refine append_ls eltB rfl (.tmp 5) (.tmp 6) rfl w.heap.size _ 0 [] rfl (World.ownsRow_lit w #[] 0 (Nat.le_refl _) (by decide) rfl) _ _ n L HL.out rfl (HA.out.below ((Below.refl _ _).alloc (Nat.le_refl _) _)) (by omega) (by simp) ?_)
    intro v2 w2 hown2 hgrow2
    have B2 := ((Below.refl w.heap.size w).alloc (Nat.le_refl _) _).grown hgrow2 (by simp) (fun j hj => by simp [Value.ownBlock] at hj; omega)
    have hown3 : w2.ownsRow w.heap.size 5 1 v2 n (iv .u8 L) := by simpa using hown2
    obtain ⟨a', c', rfl, l'⟩ := own_lsb hown3 HL.out
    clear hown2 hgrow2 hown3
    go_wp2_with fail
    go_ret
    exact ⟨a', c', rfl, l', B2⟩
/-- A slice's length. -/
def sliceN : Value → Nat
  | .slice _ k _ => k
  | _ => 0
def encF (x : P1) : Array Value := #[x.v]
/-- What is known of the k-th payload that Frames hands over. -/
structure PxF (base : Nat) (FS : List (List Int)) (k : Nat) (x : P1) (W : World) : Prop where
  at_ : FS[k]? = some x.bs
  lies : Lsb base W x.ad x.cap x.bs
  len : x.bs.length ≤ 4096
  byt : Byt x.bs
theorem PxF.kp {base : Nat} {FS : List (List Int)} {k : Nat} {x : P1} {A B : World} (h : PxF base FS k x A) (q : KpB base A B) : PxF base FS k x B := ⟨h.at_, h.lies.kp q, h.len, h.byt⟩
/-- Frames (53). -/
theorem frames_law (a : Option Addr) (n cap : Nat) (w : World) : Calls Tryz.prog 54 #[.slice a n cap] w fun e w' => e = .returned (.func (.func 100) #[] #[.pointer (some ⟨w.heap.size, 0, none⟩)]) ∧ w' = w.alloc (.cells #[.slice a n cap] 54) := by
  have hmf : ∀ (fn : Fn) (first cap : Array Value) (w : World), (Instr.makeFunc fn first cap).run Tryz.prog w = .ok (.func fn first cap) w := fun _ _ _ _ => rfl
  go_enter Tryz.func54, Tryz.ntmps54
  go_wp2
  go_ret
  exact ⟨rfl, rfl⟩
theorem drop_framesL {FS : List (List Int)} {k : Nat} {R : List Int} (h : FS.drop k = framesL R) (hi : isL R = true) : FS[k]? = some (bodyL R) ∧ FS.drop (k + 1) = framesL (R.drop (8 + lenL R)) ∧ k < FS.length := by
  rw [framesL_yes hi] at h
  have hk : k < FS.length := by
    apply Decidable.byContradiction
    intro hn
    rw [List.drop_of_length_le (by omega)] at h
    cases h
  rw [List.drop_eq_getElem_cons hk] at h
  injection h with h1 h2
  exact ⟨by rw [List.getElem?_eq_getElem hk, h1], h2, hk⟩
/-- The world while Frames goes over: what is left. -/
structure FrI (base : Nat) (FS : List (List Int)) (k : Nat) (R : List Int) (a : Option Addr) (c n : Nat) (W : World) : Prop where
  at_ : FS.drop k = framesL R
  le : k ≤ FS.length
  lies : Lsb base W a c R
  len : R.length = n
  big : n ≤ 1000000
  byt : Byt R
theorem FrI.kp {base : Nat} {FS : List (List Int)} {k : Nat} {R : List Int} {a : Option Addr} {c n : Nat} {A B : World} (h : FrI base FS k R a c n A) (q : KpB base A B) : FrI base FS k R a c n B := ⟨h.at_, h.le, h.lies.kp q, h.len, h.big, h.byt⟩
set_option maxRecDepth 100000 in
set_option maxHeartbeats 4000000 in
theorem frames_x (m : Nat) (hm : 1 ≤ m) {w : World} (a : Option Addr) (L : List Int) (n cap : Nat) (hn : L.length = n) (hn2 : n ≤ 1000000) (hB : Byt L) (hL : Ls .u8 w a cap L) (Bs : Nat) (hBs : BoxC w Bs #[.slice a n cap] 54) :
    SeqX Fence.wide m Tryz.prog 100 #[.pointer (some ⟨Bs, 0, none⟩)] encF (KpB w.heap.size) (PxF w.heap.size (framesL L)) (framesL L).length w := fun lp J Jx W hW hJ hJx hY h0 => by
  have HN := Lib.hid (And.intro hn (And.intro hB (hL.below hW)))
  have hcc := (hBs.below hW).cell 0
  have HB := Lib.hid hW.size
  obtain ⟨FS, hFS⟩ : ∃ FS, framesL L = FS := ⟨_, rfl⟩
  have HFS := Lib.hid hFS
  rw [hFS] at hY ⊢
  clear hBs hW hn hB hL hFS
  show CallsIn Fence.wide m Tryz.prog 100 #[.func (.yield lp) #[] #[], .pointer (some ⟨Bs, 0, none⟩)] W _
  refine callsIn_of_wp Tryz.func100 rfl trivial ?_ rfl
  simp only [Tryz.ntmps100, List.size_toArray, List.length_cons, List.length_nil, Nat.reduceAdd, Nat.reduceSub, Array.replicate_succ, Array.replicate_zero, List.push_toArray, List.append_toArray, List.nil_append, List.cons_append]
  simp only [List.getElem?_toArray, List.getElem?_cons_zero] at hcc
  gi_wp2_with fail
  refine ⟨trivial, ?_⟩
  refine (callsIn_wide.2 (clone_own a L n cap HN.out.1 hn2 W HN.out.2.2)).mono ?_
  rintro e W2 ⟨a2, c2, rfl, hl2, hb2⟩
  have HJ2 := Lib.hid (show J 0 W2 from hJ _ _ _ _ h0 (grown_of_below hb2) (fun r e => by cases e))
  have HI2 := Lib.hid (show FrI w.heap.size FS 0 L a2 c2 n W2 from ⟨HFS.out ▸ rfl, Nat.zero_le _, ⟨hl2.ls, fun b e h => ⟨Nat.le_trans HB.out (hl2.at_ b e h).1, (hl2.at_ b e h).2⟩⟩, HN.out.1, hn2, HN.out.2.1⟩)
  have HS2 := Lib.hid (Nat.le_trans HB.out hb2.size)
  clear h0 hcc hb2 hl2
  gi_wp2_with fail
  gi_loopw [3, 4, 5] (fun v p o wr => ∃ (k : Nat) (R : List Int) (ra : Option Addr) (rc rn : Nat), v = .slice ra rn rc ∧ Hid (FrI w.heap.size FS k R ra rc rn wr) ∧ Hid (J k wr) ∧ Hid (w.heap.size ≤ wr.heap.size)) (fun v _ _ _ => sliceN v)
  case atStart => exact ⟨0, L, a2, c2, n, rfl, HI2, HJ2, HS2⟩
  case round =>
    clear HI2 HJ2 HS2
    obtain ⟨k, R, ra, rc, rn, rfl, HI, HJ, HSZ⟩ := hrel
    gi_wp2_with fail
    refine ⟨trivial, ?_⟩
    refine (callsIn_wide.2 (first_law ra R rn rc HI.out.len HI.out.big HI.out.byt wr HI.out.lies.ls)).mono ?_
    rintro e W3 ⟨a3, m3, c3, rfl, hyes, hb3⟩
    have HI3 := Lib.hid (HI.out.kp (KpB.below hb3))
    have HJ3 := Lib.hid (show J k W3 from hJ _ _ _ _ HJ.out (grown_of_below hb3) (fun r e => by cases e))
    have HS3 := Lib.hid (Nat.le_trans HSZ.out hb3.size)
    cases hi : isL R with
    | false =>
      have HE := Lib.hid (show J FS.length W3 by
        have h1 := HI.out.at_
        rw [framesL_no hi] at h1
        have h2 := HI.out.le
        have h3 : FS.length ≤ k := by
          apply Decidable.byContradiction
          intro hn
          rw [List.drop_eq_getElem_cons (by omega)] at h1
          cases h1
        rw [show FS.length = k by omega]
        exact HJ3.out)
      clear hyes hb3 HI HJ HI3 HJ3 hi
      gi_wp2
      refine ⟨trivial, ?_⟩
      gi_wp2
      refine ⟨(fun f e => nomatch e), ?_⟩
      gi_wp2
      refine bodyPost_ret (results_none rfl _ _ _) rfl ?_
      exact ⟨⟨_, rfl⟩, .inl HE.out⟩
    | true =>
      obtain ⟨rfl, hl3⟩ := hyes hi
      obtain ⟨d1, d2, d3⟩ := drop_framesL HI.out.at_ hi
      have hil := isL_iff.1 hi
      have hbl := bodyL_len hi
      have hbb : Byt (bodyL R) := fun x hx => HI.out.byt x (List.mem_of_mem_drop (List.mem_of_mem_take hx))
      have HD := Lib.hid (And.intro d1 (And.intro d2 (And.intro d3 (And.intro hbl (And.intro hbb hl3)))))
      obtain ⟨le, hle⟩ : ∃ le, lenL R = le := ⟨_, rfl⟩
      have hrl := HI.out.len
      have hrb := HI.out.big
      have h8 : 8 + le ≤ rn := by omega
      have hle4 : le ≤ 4096 := by omega
      have HLE := Lib.hid hle
      rw [hle]
      clear hyes hb3 HI HJ hi d1 d2 d3 hil hbl hbb hl3 hle hrl
      gi_wp2_with fail
      refine ⟨trivial, ?_⟩
      refine (callsIn_wide.2 (clone_own a3 (bodyL R) le c3 (by rw [HD.out.2.2.2.1, HLE.out]) (by omega) W3 HD.out.2.2.2.2.2)).mono ?_
      rintro e W4 ⟨a4, c4, rfl, hl4, hb4⟩
      have HI4 := Lib.hid (HI3.out.kp (KpB.below hb4))
      have HJ4 := Lib.hid (show J k W4 from hJ _ _ _ _ HJ3.out (grown_of_below hb4) (fun r e => by cases e))
      have HS4 := Lib.hid (Nat.le_trans HS3.out hb4.size)
      have hpx : PxF w.heap.size FS k ⟨a4, c4, bodyL R⟩ W4 := ⟨HD.out.1, ⟨hl4.ls, fun b e h => ⟨Nat.le_trans HS3.out (hl4.at_ b e h).1, (hl4.at_ b e h).2⟩⟩, by rw [HD.out.2.2.2.1, HLE.out]; exact hle4, HD.out.2.2.2.2.1⟩
      obtain ⟨fn, tmps, assign, body, hy, hR⟩ := hY k ⟨a4, c4, bodyL R⟩ W4 HD.out.2.2.1 HJ4.out hpx
      dsimp only [encF, P1.v] at hy
      rw [HD.out.2.2.2.1, HLE.out] at hy
      clear hpx hl4 hb4 HI3 HJ3
      gi_wp2
      refine hR.mono ?_
      rintro e W5 (⟨rfl, hJ5, hk5⟩ | ⟨rfl, hJx5⟩)
      · have hi5 := HI4.out.kp hk5
        obtain ⟨a6, c6, hsl, hl6⟩ := hi5.lies.lo rn (8 + le) hi5.len h8
        have hsl' : ∀ W', (Instr.slice 54 (.slice ra rn rc) (some (.int .i64 (8 + (le : Int)))) none none).run Tryz.prog W' = .ok (.slice a6 (rn - (8 + le)) c6) W' := fun W' => by
          have := hsl W'
          rw [show ((8 + le : Nat) : Int) = 8 + (le : Int) by omega] at this
          exact this
        have hw8 : IntKind.i64.wrap (8 + (le : Int)) = 8 + (le : Int) := by rw [IntKind.wrap_i64] <;> omega
        have HI6 := Lib.hid (show FrI w.heap.size FS (k + 1) (R.drop (8 + le)) a6 c6 (rn - (8 + le)) W5 from ⟨by rw [HD.out.2.1, HLE.out], by have := HD.out.2.2.1; omega, hl6, by rw [List.length_drop, hi5.len], by omega, fun x hx => hi5.byt x (List.mem_of_mem_drop hx)⟩)
        have HJ5 := Lib.hid hJ5
        have HS5 := Lib.hid (Nat.le_trans HS4.out hk5.size)
        clear hJ5 hk5 hi5 hsl hl6 HI4 HJ4
        gi_wp2
        go_roundw
        case rel => exact ⟨k + 1, _, _, _, _, rfl, HI6, HJ5, HS5⟩
        case measure => simp [sliceN]; omega
      · have HX5 := Lib.hid hJx5
        clear hJx5
        gi_wp2
        refine bodyPost_ret (results_none rfl _ _ _) rfl ?_
        exact ⟨⟨_, rfl⟩, .inr ⟨k, HD.out.2.2.1, HX5.out⟩⟩
end Go.Proofs.YtglkndoghnblcaaGreatDoor
namespace Go.Proofs.YtglkndoghnblcaaGreatDoor
open Go.ChangeShapes Go.WideShapes Go.ChangeAt Go.RowKit Go.Shelf
set_option linter.unusedVariables false
set_option linter.unusedSimpArgs false
attribute [local go_sem] Oper.semAt_some
def sumF (FS : List (List Int)) (k : Nat) : Nat := ((FS.take k).map fun p => 8 + p.length).sum
theorem sumF_succ {FS : List (List Int)} {k : Nat} {p : List Int} (h : FS[k]? = some p) : sumF FS (k + 1) = sumF FS k + (8 + p.length) := by
  unfold sumF
  rw [List.take_add_one, h]
  simp
theorem sumF_all (FS : List (List Int)) : sumF FS FS.length = (FS.map fun p => 8 + p.length).sum := by
  unfold sumF
  rw [List.take_length]
theorem whole_le : ∀ (n : Nat) (L : List Int), L.length ≤ n → wholeL L ≤ L.length
  | 0, L, h => by
    have : isL L = false := isL_no (by omega)
    unfold wholeL
    rw [framesL_no this]
    simp
  | n + 1, L, h => by
    cases hi : isL L with
    | false =>
      unfold wholeL
      rw [framesL_no hi]
      simp
    | true =>
      have h1 := isL_iff.1 hi
      have h2 := bodyL_len hi
      have h3 := whole_le n (L.drop (8 + lenL L)) (by rw [List.length_drop]; omega)
      unfold wholeL at h3 ⊢
      rw [framesL_yes hi, List.map_cons, List.sum_cons, h2]
      rw [List.length_drop] at h3
      omega
theorem sumF_le (FS : List (List Int)) (k : Nat) : sumF FS k ≤ (FS.map fun p => 8 + p.length).sum := by
  unfold sumF
  have : FS.map (fun p => 8 + p.length) = (FS.take k).map (fun p => 8 + p.length) ++ (FS.drop k).map (fun p => 8 + p.length) := by rw [← List.map_append, List.take_append_drop]
  rw [this, List.sum_append]
  omega
set_option maxRecDepth 100000 in
set_option maxHeartbeats 4000000 in
/-- Whole (14). -/
theorem whole_law (a : Option Addr) (L : List Int) (n cap : Nat) (hn : L.length = n) (hn2 : n ≤ 1000000) (hB : Byt L) (w : World) (hL : Ls .u8 w a cap L) :
    Calls Tryz.prog 33 #[.slice a n cap] w fun e w' => e = .returned (.int .i64 ((wholeL L : Nat) : Int)) ∧ Below w.heap.size w w' := by
  have HN := Lib.hid (And.intro hn (And.intro hB hL))
  have hwl : wholeL L ≤ 1000000 := Nat.le_trans (whole_le n L (Nat.le_of_eq hn)) (by omega)
  obtain ⟨FS, hFS⟩ : ∃ FS, framesL L = FS := ⟨_, rfl⟩
  have HFS := Lib.hid hFS
  have HWL := Lib.hid (show wholeL L = sumF FS FS.length by rw [sumF_all, ← hFS]; rfl)
  have HLE := Lib.hid (show ∀ k, sumF FS k ≤ 1000000 from fun k => Nat.le_trans (sumF_le FS k) (by rw [← hFS]; exact hwl))
  clear hn hB hL hFS hwl
  refine (callsIn_wide (n := 6)).1 ?_
  refine callsIn_of_wp_marks Tryz.func33 rfl trivial ?_ rfl
  simp only [Tryz.ntmps33, List.size_toArray, List.length_cons, List.length_nil, Nat.reduceAdd, Nat.reduceSub, Array.replicate_succ, Array.replicate_zero, List.push_toArray, List.append_toArray, List.nil_append, List.cons_append]
  gi_wp2_with fail
  refine ⟨trivial, ?_⟩
  refine (callsIn_wide.2 (frames_law a n cap _)).mono ?_
  rintro e w' ⟨rfl, rfl⟩
  gi_wp2_with fail
  obtain ⟨W5, hW5⟩ : ∃ W5, (w.alloc (.cells #[.int .i64 0] 3)).alloc (.cells #[.slice a n cap] 54) = W5 := ⟨_, rfl⟩
  have hb5 : Below w.heap.size w W5 := by rw [← hW5]; exact ((Below.refl _ w).alloc (Nat.le_refl _) _).alloc (by simp) _
  have bN : BoxC W5 w.heap.size #[.int .i64 0] 3 := by rw [← hW5]; exact (BoxC.new w _ 3).alloc _
  have bF : BoxC W5 (w.heap.size + 1) #[.slice a n cap] 54 := by
    rw [← hW5]; have := BoxC.new (w.alloc (.cells #[.int .i64 0] 3)) #[.slice a n cap] 54; simpa using this
  have hs5 : W5.heap.size = w.heap.size + 2 := by rw [← hW5]; simp
  rw [hW5]
  clear hW5
  have HB5 := Lib.hid hb5
  have HS5 := Lib.hid hs5
  have hsq : SeqX Fence.wide 5 Tryz.prog 100 #[.pointer (some ⟨w.heap.size + 1, 0, none⟩)] encF (KpB W5.heap.size) (PxF W5.heap.size FS) FS.length W5 := by
    have := frames_x 5 (by omega) (w := W5) a L n cap HN.out.1 hn2 HN.out.2.1 (HN.out.2.2.below hb5) (w.heap.size + 1) bF
    rw [HFS.out] at this
    exact this
  have bN' : BoxC W5 w.heap.size #[.int .i64 ((sumF FS 0 : Nat) : Int)] 3 := bN
  refine wp_range_x1 rfl (by omega) (gf := 100) (lb := #[.pointer (some ⟨w.heap.size + 1, 0, none⟩)]) rfl trivial (enters_of Tryz.func100 (by kernel_rfl) rfl)
    hsq KpB.trans (fun A => KpB.refl _ A) (fun W l o o' h1 h2 h3 h4 => KpB.put W l o o' h1 h2 h3 h4)
    (fun k x W l o o' h1 h2 h3 h4 hp => hp.kp (KpB.put W l o o' h1 h2 h3 h4)) (fun _ => rfl)
    (fun k W => Below w.heap.size w W ∧ BoxC W w.heap.size #[.int .i64 ((sumF FS k : Nat) : Int)] 3)
    (fun _ _ => False)
    (OwnFrom.and (ownFrom_below (Nat.le_refl _) (by omega)) (Own.from (I := fun (k : Nat) W => BoxC W w.heap.size #[.int .i64 ((sumF FS k : Nat) : Int)] 3) (fun (k : Nat) X Y row hs hg hr => BoxC.own hs hg hr) _))
    (fun s A B row hs _ _ => hs)
    ⟨hb5, bN'⟩
    ?a1 ?assign ?body ?done ?stop
  case assign =>
    rintro l x W K hK
    dsimp only [encF, P1.v]
    gi_wp2
    exact hK
  case body =>
    rintro l k x W hk ⟨hbW, hbx⟩ hpx
    have z := hbx.cell 0
    have f := hbx.frozen 0
    simp only [List.getElem?_toArray, List.getElem?_cons_zero] at z
    obtain ⟨s, hs⟩ : ∃ s, sumF FS k = s := ⟨_, rfl⟩
    have hsl : s ≤ 1000000 := by rw [← hs]; exact HLE.out k
    have h4 := hpx.len
    obtain ⟨q, hq⟩ : ∃ q, x.bs.length = q := ⟨_, rfl⟩
    have HSU := Lib.hid (show sumF FS (k + 1) = s + (8 + q) by rw [sumF_succ hpx.at_, hs, hq])
    rw [hs] at z
    rw [hq] at h4
    have e1 : IntKind.i64.wrap (8 + (q : Int)) = 8 + (q : Int) := by rw [IntKind.wrap_i64] <;> omega
    have e2 : IntKind.i64.wrap ((s : Int) + (8 + (q : Int))) = ((s + (8 + q) : Nat) : Int) := by rw [IntKind.wrap_i64] <;> omega
    have HBX := Lib.hid hbx
    have HBW := Lib.hid hbW
    rw [hq]
    clear hbx hbW hpx hs hq
    gi_wp2
    refine ⟨(KeepsOthers.setCell _ _ _).from _, KpB.set _ _ _ (by simp; omega), HBW.out.setCell (p := ⟨w.heap.size, 0, none⟩) (by simp) _, ?_⟩
    rw [HSU.out]
    exact HBX.out.put 0 _
  case done =>
    rintro D W hD ⟨hbW, hbx⟩ hK
    have z := hbx.cell 0
    simp only [List.getElem?_toArray, List.getElem?_cons_zero] at z
    rw [← HWL.out] at z
    clear hbx
    gi_wp2
    refine ⟨by simp, .inl ⟨_, _, rfl, run_takeDeferred hK, ?_⟩⟩
    refine ⟨_, results_tmp rfl _ _ _, rfl, hbW.trans (belowK_b (w := w) (Nat.le_refl _) _ D _ _ (by omega) hK rfl rfl)⟩
  case stop =>
    rintro D k W hD hk hf hK
    exact hf.elim
end Go.Proofs.YtglkndoghnblcaaGreatDoor
namespace Go.Proofs.YtglkndoghnblcaaGreatDoor
open Go.ChangeShapes Go.WideShapes Go.ChangeAt Go.RowKit Go.Shelf
set_option linter.unusedVariables false
set_option linter.unusedSimpArgs false
attribute [local go_sem] Oper.semAt_some
theorem own_own {w w' : World} {base n s : Nat} {e : TypeId} {v : Value} {xs : List Value} {row : Option Nat} (h : w.ownsRow base e s v n xs) (hg : w.grownBy w' row) (hr : ∀ r, row = some r → ∃ o : Obj, w.heap[r]? = some o ∧ o.isCells = false) : w'.ownsRow base e s v n xs := by
  refine h.kept hg ?_
  rcases h.2 with ⟨rfl, _⟩ | ⟨g, cap, cur, rfl, _, hgg, _⟩
  · exact .inl rfl
  · refine .inr fun e => ?_
    obtain ⟨o, ho, hc⟩ := hr g (by rw [← e]; rfl)
    rw [hgg] at ho
    cases ho
    cases hc
theorem WritesO.own {w w' : World} {base : Nat} {xs : List Wr3} {v : Value} {row : Option Nat} (h : WritesO w base xs v) (hg : w.grownBy w' row) (hr : ∀ r, row = some r → ∃ o : Obj, w.heap[r]? = some o ∧ o.isCells = false) : WritesO w' base xs v := by
  obtain ⟨ps, h1, h2, h3⟩ := h
  exact ⟨ps, h1, own_own h2 hg hr, fun p hp => ⟨(h3 p hp).nn, own_own (h3 p hp).key hg hr, own_own (h3 p hp).row hg hr, fun q hq => own_own ((h3 p hp).all q hq) hg hr⟩⟩
theorem TxsO.own {w w' : World} {base : Nat} {xs : List Tx3} {v : Value} {row : Option Nat} (h : TxsO w base xs v) (hg : w.grownBy w' row) (hr : ∀ r, row = some r → ∃ o : Obj, w.heap[r]? = some o ∧ o.isCells = false) : TxsO w' base xs v := by
  obtain ⟨ps, h1, h2, h3⟩ := h
  exact ⟨ps, h1, own_own h2 hg hr, fun p hp => (h3 p hp).own hg hr⟩
/-- What a round may change: no record of a loop, no row of bytes from base on. -/
structure KK (base : Nat) (A B : World) : Prop where
  ko : KeepsOthers A B
  kb : KpB base A B
theorem KK.trans {base : Nat} {A B C : World} (h : KK base A B) (k : KK base B C) : KK base A C := ⟨h.ko.trans k.ko, h.kb.trans k.kb⟩
theorem KK.below {base : Nat} {A B : World} (b : Below A.heap.size A B) : KK base A B := ⟨KeepsOthers.of_grownBy (grown_of_below b) (fun j o e => by cases e), KpB.below b⟩
theorem KK.box {base : Nat} {A : World} {b i : Nat} {cs : Array Value} {t : TypeId} (v : Value) (h : BoxC A b cs t) (ht : t ≠ 5) : KK base A (A.setCell ⟨b, i, none⟩ v) :=
  ⟨KeepsOthers.setCell _ _ _, KpB.grow (oth_set A b i v) (fun r e => by
    cases e
    refine ⟨_, h, ?_⟩
    unfold isB
    split
    · rename_i heq
      injection heq with _ h2 _
      exact absurd h2 ht
    · rfl)⟩
theorem KK.grow39 {base b n : Nat} {A B : World} {v : Value} {cs : List Value} (h : A.ownsRow b 62 3 v n cs) (g : A.grownBy B v.ownBlock) : KK base A B := by
  rcases h.2 with ⟨rfl, _⟩ | ⟨gg, cap, cur, rfl, _, hgg, _⟩
  · exact ⟨KeepsOthers.of_grownBy g (fun j o e => by cases e), KpB.grow g (fun r e => by cases e)⟩
  · refine ⟨KeepsOthers.of_grownBy g (fun j o e ho => ?_), KpB.grow g (fun r e => ?_)⟩
    · have e' : gg = j := by simpa [Value.ownBlock] using e
      subst e'
      rw [hgg] at ho; cases ho; rfl
    · have e' : gg = r := by simpa [Value.ownBlock] using e
      subst e'
      exact ⟨_, hgg, rfl⟩
/-- The world while Txns goes over the frames. -/
structure TgI (w : World) (base : Nat) (FS : List (List Int)) (k : Nat) (W : World) : Prop where
  bel : Below w.heap.size w W
  num : BoxC W (w.heap.size + 1) #[.int .i64 ((sumF FS k : Nat) : Int)] 3
  row : ∃ v xs, BoxC W w.heap.size #[v] 64 ∧ TxsO W base xs v ∧ xs.length = k ∧ txsL FS = xs ++ txsL (FS.drop k)
  sz : base ≤ W.heap.size
/-- .. where it breaks off. -/
structure TgX (w : World) (base : Nat) (FS : List (List Int)) (k : Nat) (W : World) : Prop where
  bel : Below w.heap.size w W
  num : BoxC W (w.heap.size + 1) #[.int .i64 ((sumF FS k : Nat) : Int)] 3
  row : ∃ v xs, BoxC W w.heap.size #[v] 64 ∧ TxsO W base xs v ∧ xs.length = k ∧ txsL FS = xs
theorem TgI.own {w A B : World} {base k : Nat} {FS : List (List Int)} {row : Option Nat} (h : TgI w base FS k A) (hb : Below w.heap.size w B) (hg : A.grownBy B row) (hr : ∀ r, row = some r → ∃ o : Obj, A.heap[r]? = some o ∧ o.isCells = false) : TgI w base FS k B := by
  obtain ⟨v, xs, h1, h2, h3, h4⟩ := h.row
  exact ⟨hb, h.num.own hg hr, ⟨v, xs, h1.own hg hr, h2.own hg hr, h3, h4⟩, Nat.le_trans h.sz hg.size⟩
theorem TgX.own {w A B : World} {base k : Nat} {FS : List (List Int)} {row : Option Nat} (h : TgX w base FS k A) (hb : Below w.heap.size w B) (hg : A.grownBy B row) (hr : ∀ r, row = some r → ∃ o : Obj, A.heap[r]? = some o ∧ o.isCells = false) : TgX w base FS k B := by
  obtain ⟨v, xs, h1, h2, h3, h4⟩ := h.row
  exact ⟨hb, h.num.own hg hr, v, xs, h1.own hg hr, h2.own hg hr, h3, h4⟩
theorem TgI.below {w A B : World} {base k : Nat} {FS : List (List Int)} (h : TgI w base FS k A) (b : Below A.heap.size A B) : TgI w base FS k B := by
  obtain ⟨v, xs, h1, h2, h3, h4⟩ := h.row
  exact ⟨h.bel.trans (b.mono h.bel.size), h.num.below b, ⟨v, xs, h1.below b, h2.below b, h3, h4⟩, Nat.le_trans h.sz b.size⟩
theorem TgI.no {w A B : World} {base k : Nat} {FS : List (List Int)} {p : List Int} (h : TgI w base FS k A) (b : Below A.heap.size A B) (hp : FS[k]? = some p) (hx : oneTx p = none) : TgX w base FS k B := by
  obtain ⟨v, xs, h1, h2, h3, h4⟩ := h.row
  exact ⟨h.bel.trans (b.mono h.bel.size), h.num.below b, v, xs, h1.below b, h2.below b, h3, txsL_no xs hp h4 hx⟩
theorem sumF_ge (FS : List (List Int)) : ∀ k, k ≤ FS.length → 8 * k ≤ sumF FS k
  | 0, _ => Nat.zero_le _
  | k + 1, h => by
    have ih := sumF_ge FS k (by omega)
    obtain ⟨p, hp⟩ : ∃ p, FS[k]? = some p := ⟨_, List.getElem?_eq_getElem (by omega)⟩
    rw [sumF_succ hp]
    omega
theorem info39 : (Tryz.prog.info? 62).map (fun i => (i.zero, i.size, i.bytes)) = some (some (.agg #[.int .i64 0, .int .i64 0, .slice none 0 0]), 3, 40) := by kernel_rfl
def TxnsR (w : World) (L : List Int) (r : Ending) (w' : World) : Prop :=
  ∃ v, r = .returned (.tuple #[v, .int .i64 ((sumF (framesL L) (txsL (framesL L)).length : Nat) : Int), .bool (sumF (framesL L) (txsL (framesL L)).length == wholeL L)]) ∧ TxsO w' w.heap.size (txsL (framesL L)) v ∧ Below w.heap.size w w'
set_option maxRecDepth 100000 in
set_option maxHeartbeats 4000000 in
/-- Txns (20). -/
theorem txns_law (a : Option Addr) (L : List Int) (n cap : Nat) (hn : L.length = n) (hn2 : n ≤ 1000000) (hB : Byt L) (w : World) (hL : Ls .u8 w a cap L) :
    Calls Tryz.prog 25 #[.slice a n cap] w (TxnsR w L) := by
  have HN := Lib.hid (And.intro hn (And.intro hB hL))
  have WH := Lib.hid (fun W (b : Below w.heap.size w W) => whole_law a L n cap hn hn2 hB W (hL.below b))
  have hwl : wholeL L ≤ 1000000 := Nat.le_trans (whole_le n L (Nat.le_of_eq hn)) (by omega)
  obtain ⟨wl, hwl2⟩ : ∃ wl, wholeL L = wl := ⟨_, rfl⟩
  have HWL := Lib.hid hwl2
  obtain ⟨FS, hFS⟩ : ∃ FS, framesL L = FS := ⟨_, rfl⟩
  have HFS := Lib.hid hFS
  have HLE := Lib.hid (show ∀ k, sumF FS k ≤ 1000000 from fun k => Nat.le_trans (sumF_le FS k) (by rw [← hFS]; exact hwl))
  rw [hwl2] at WH
  clear hn hB hL hFS hwl hwl2
  obtain ⟨i0, hi, hz0, hz1, hz2⟩ := info_parts info39
  refine (callsIn_wide (n := 6)).1 ?_
  refine callsIn_of_wp_marks Tryz.func25 rfl trivial ?_ rfl
  simp only [Tryz.ntmps25, List.size_toArray, List.length_cons, List.length_nil, Nat.reduceAdd, Nat.reduceSub, Array.replicate_succ, Array.replicate_zero, List.push_toArray, List.append_toArray, List.nil_append, List.cons_append]
  refine wpIn_wide.2 ?_
  go_wp2_with fail
  go_step3
  go_wp2_with fail
  go_step3
  go_wp2_with fail
  refine (frames_law a n cap _).mono ?_
  rintro e w' ⟨rfl, rfl⟩
  go_wp2_with fail
  refine (wpIn_wide (n := 6)).1 ?_
  rename_i KT hKT
  obtain ⟨W5, hW5⟩ : ∃ W5, (((w.alloc (.cells #[.slice none 0 0] 64)).alloc (.cells #[.int .i64 0] 3)).alloc (.cells #[.slice a n cap] 54)) = W5 := ⟨_, rfl⟩
  have hb5 : Below w.heap.size w W5 := by rw [← hW5]; exact (((Below.refl _ w).alloc (Nat.le_refl _) _).alloc (by simp) _).alloc (by simp; omega) _
  have bL : BoxC W5 w.heap.size #[.slice none 0 0] 64 := by rw [← hW5]; exact ((BoxC.new w _ 64).alloc _).alloc _
  have bN : BoxC W5 (w.heap.size + 1) #[.int .i64 ((sumF FS 0 : Nat) : Int)] 3 := by
    rw [← hW5]; have := (BoxC.new (w.alloc (.cells #[.slice none 0 0] 64)) #[.int .i64 0] 3).alloc (.cells #[.slice a n cap] 54); simpa [sumF] using this
  have bF : BoxC W5 (w.heap.size + 1 + 1) #[.slice a n cap] 54 := by
    rw [← hW5]; have := BoxC.new ((w.alloc (.cells #[.slice none 0 0] 64)).alloc (.cells #[.int .i64 0] 3)) #[.slice a n cap] 54; simpa using this
  have hs5 : W5.heap.size = w.heap.size + 3 := by rw [← hW5]; simp
  rw [hW5]
  clear hW5
  have hsq : SeqX Fence.wide 5 Tryz.prog 100 #[.pointer (some ⟨w.heap.size + 1 + 1, 0, none⟩)] encF (KpB W5.heap.size) (PxF W5.heap.size FS) FS.length W5 := by
    have := frames_x 5 (by omega) (w := W5) a L n cap HN.out.1 hn2 HN.out.2.1 (HN.out.2.2.below hb5) (w.heap.size + 1 + 1) bF
    rw [HFS.out] at this
    exact this
  obtain ⟨Bs, hBs⟩ : ∃ Bs, W5.heap.size = Bs := ⟨_, rfl⟩
  have HBS := Lib.hid hs5
  rw [hBs] at HBS
  have hBs3 : w.heap.size + 3 ≤ Bs := by omega
  refine wp_range_y1 rfl (by omega) (gf := 100) (lb := #[.pointer (some ⟨w.heap.size + 1 + 1, 0, none⟩)]) rfl trivial (enters_of Tryz.func100 (by kernel_rfl) rfl)
    hsq KpB.trans (fun A => KpB.refl _ A) (fun W l o o' h1 h2 h3 h4 => KpB.put W l o o' h1 h2 h3 h4)
    (fun k x W l o o' h1 h2 h3 h4 hp => hp.kp (KpB.put W l o o' h1 h2 h3 h4)) (fun _ => rfl)
    (fun k W => TgI w W5.heap.size FS k W) (fun k W => TgX w W5.heap.size FS k W)
    (fun s A B row hs hg hr => hs.own (hs.bel.grown hg hs.bel.size (fun j e => by have := (hr j e).1; omega)) hg (fun r e => (hr r e).2))
    (fun s A B row hs hg hr => hs.own (hs.bel.grown hg hs.bel.size (fun j e => by have := (hr j e).1; omega)) hg (fun r e => (hr r e).2))
    ⟨hb5, bN, ⟨_, [], bL, TxsO.nil _ _, rfl, by simp⟩, Nat.le_refl _⟩ 0
    ?a1 ?assign ?body ?done ?stop
  case assign =>
    rintro l x W K hK
    dsimp only [encF, P1.v]
    gi_wp2
    exact hK
  case body =>
    rintro l k x W hk hI hpx
    rw [hBs] at hI hpx ⊢
    clear hs5 hb5 bL bN bF hsq hBs
    have hlen := hpx.len
    have HRD := Lib.hid (readtx_law x.ad x.bs x.bs.length x.cap rfl (by omega) hpx.byt W hpx.lies.ls)
    obtain ⟨pl, hpl⟩ : ∃ pl, x.bs.length = pl := ⟨_, rfl⟩
    have HPL := Lib.hid hpl
    have HI := Lib.hid hI
    have HPX := Lib.hid hpx
    rw [hpl] at HRD hlen ⊢
    clear hI hpx hpl
    gi_wp2_with fail
    refine ⟨trivial, ?_⟩
    refine (CallsIn.inRound l (callsIn_wide.2 HRD.out)).mono ?_
    rintro r w1 ⟨⟨h1, rfl⟩ | ⟨t, v, h1, rfl, hv⟩, b1⟩
    · have HX := Lib.hid (oneTx_1 h1)
      clear h1
      gi_wp2_with fail
      obtain ⟨W2, hW2⟩ : ∃ W2, w1.alloc (.cells #[.int .i64 0, .int .i64 0, .slice none 0 0] 62) = W2 := ⟨_, rfl⟩
      have hb2 : Below w1.heap.size w1 W2 := by rw [← hW2]; exact bl1 _ _
      have bx2 : BoxC W2 w1.heap.size #[.int .i64 0, .int .i64 0, .slice none 0 0] 62 := by rw [← hW2]; exact BoxC.new _ _ _
      try rw [hW2]
      clear hW2
      refine ⟨trivial, ?_⟩
      refine (CallsIn.inRound l (callsIn_wide.2 (suretx_no 0 0 4 none 0 0 (by decide) W2))).mono ?_
      rintro r w3 ⟨rfl, b3⟩
      have b3' := b3
      have bx3 := bx2.below b3
      have x0 := bx3.cell 0
      have x1 := bx3.cell 1
      have x2 := bx3.cell 2
      have f0 := bx3.frozen 0
      have f1 := bx3.frozen 1
      have f2 := bx3.frozen 2
      simp only [List.getElem?_toArray, List.getElem?_cons_zero, List.getElem?_cons_succ] at x0 x1 x2
      have HB9 := Lib.hid ((((step_below (step_below b1 hb2) b3).setCell (p := ⟨w1.heap.size, 0, none⟩) b1.size (.int .i64 0)).setCell (p := ⟨w1.heap.size, 1, none⟩) b1.size (.int .i64 0)).setCell (p := ⟨w1.heap.size, 2, none⟩) b1.size (.slice none 0 0))
      have X9 := Lib.hid (((bx3.put 0 (.int .i64 0)).put 1 (.int .i64 0)).put 2 (.slice none 0 0))
      clear bx3 bx2 b3 b3' hb2
      gi_wp2_with fail
      exact ⟨rfl, (KK.below HB9.out : KK Bs _ _).ko.from Bs, HI.out.no HB9.out HPX.out.at_ HX.out⟩
    · have hbt := txnP_all HPX.out.byt (readP_some h1)
      obtain ⟨⟨e, s⟩, ys⟩ := t
      obtain ⟨ra, rc, rfl, hw⟩ := hv
      simp only at hw ⊢
      obtain ⟨ps, hp1, hp2, hp3, hp4, hp5⟩ := hw.lies hbt.1.all
      obtain ⟨yl, hyl⟩ : ∃ yl, ys.length = yl := ⟨_, rfl⟩
      have hyl16 : yl ≤ 16 := by rw [← hyl]; exact hbt.1.n
      have HYL := Lib.hid hyl
      rw [hyl] at hw ⊢
      have HB1 := Lib.hid b1
      have HW1 := Lib.hid (hw.base HI.out.sz)
      have HSU := Lib.hid (fun W (b : Below w1.heap.size w1 W) => suretx_law (e : Int) (s : Int) ra ps yl rc (by rw [← hyl, ← hp1]; simp) (by omega) hp5 W (hp3.below b))
      obtain ⟨ok, hok⟩ : ∃ ok, okTx ((e, s), ys) = ok := ⟨_, rfl⟩
      have hok2 : txB (e : Int) (s : Int) ps = ok := by rw [okTx_lies e s hp4, hp1]; exact hok
      rw [hok2] at HSU
      have HOK := Lib.hid (And.intro h1 hok)
      clear h1 hbt hw hp1 hp2 hp3 hp4 hp5 hyl hok hok2
      gi_wp2_with fail
      obtain ⟨W2, hW2⟩ : ∃ W2, w1.alloc (.cells #[.int .i64 (e : Int), .int .i64 (s : Int), .slice ra yl rc] 62) = W2 := ⟨_, rfl⟩
      have hb2 : Below w1.heap.size w1 W2 := by rw [← hW2]; exact bl1 _ _
      have bx2 : BoxC W2 w1.heap.size #[.int .i64 (e : Int), .int .i64 (s : Int), .slice ra yl rc] 62 := by rw [← hW2]; exact BoxC.new _ _ _
      try rw [hW2]
      clear hW2
      refine ⟨trivial, ?_⟩
      refine (CallsIn.inRound l (callsIn_wide.2 (HSU.out _ hb2))).mono ?_
      rintro r w3 ⟨rfl, b3⟩
      cases ok with
      | false =>
        have HX := Lib.hid (oneTx_2 HOK.out.1 HOK.out.2)
        simp only [Bool.false_eq_true, if_false]
        have b3' := b3
        have bx3 := bx2.below b3
        have x0 := bx3.cell 0
        have x1 := bx3.cell 1
        have x2 := bx3.cell 2
        have f0 := bx3.frozen 0
        have f1 := bx3.frozen 1
        have f2 := bx3.frozen 2
        simp only [List.getElem?_toArray, List.getElem?_cons_zero, List.getElem?_cons_succ] at x0 x1 x2
        have HB9 := Lib.hid ((((step_below (step_below b1 hb2) b3).setCell (p := ⟨w1.heap.size, 0, none⟩) b1.size (.int .i64 0)).setCell (p := ⟨w1.heap.size, 1, none⟩) b1.size (.int .i64 0)).setCell (p := ⟨w1.heap.size, 2, none⟩) b1.size (.slice none 0 0))
        have X9 := Lib.hid (((bx3.put 0 (.int .i64 0)).put 1 (.int .i64 0)).put 2 (.slice none 0 0))
        clear bx3 bx2 b3 b3' hb2
        gi_wp2_with fail
        exact ⟨rfl, (KK.below HB9.out : KK Bs _ _).ko.from Bs, HI.out.no HB9.out HPX.out.at_ HX.out⟩
      | true =>
        have HX := Lib.hid (oneTx_3 HOK.out.1 HOK.out.2)
        simp only [if_true]
        have HB19 := Lib.hid ((((step_below hb2 b3).setCell (p := ⟨w1.heap.size, 0, none⟩) (Nat.le_refl _) (.int .i64 (e : Int))).setCell (p := ⟨w1.heap.size, 1, none⟩) (Nat.le_refl _) (.int .i64 (s : Int))).setCell (p := ⟨w1.heap.size, 2, none⟩) (Nat.le_refl _) (.slice ra yl rc))
        have hs3 : Bs ≤ w3.heap.size := Nat.le_trans HI.out.sz (Nat.le_trans b1.size (Nat.le_trans hb2.size b3.size))
        have b3' := b3
        have bx3 := bx2.below b3
        have x0 := bx3.cell 0
        have x1 := bx3.cell 1
        have x2 := bx3.cell 2
        have f0 := bx3.frozen 0
        have f1 := bx3.frozen 1
        have f2 := bx3.frozen 2
        simp only [List.getElem?_toArray, List.getElem?_cons_zero, List.getElem?_cons_succ] at x0 x1 x2
        have HB9 := Lib.hid ((((step_below (step_below b1 hb2) b3).setCell (p := ⟨w1.heap.size, 0, none⟩) b1.size (.int .i64 (e : Int))).setCell (p := ⟨w1.heap.size, 1, none⟩) b1.size (.int .i64 (s : Int))).setCell (p := ⟨w1.heap.size, 2, none⟩) b1.size (.slice ra yl rc))
        have X9 := Lib.hid (((bx3.put 0 (.int .i64 (e : Int))).put 1 (.int .i64 (s : Int))).put 2 (.slice ra yl rc))
        clear bx3 bx2 b3 b3' hb2
        gi_upto_region 8 with (fail)
        clear x0 x1 x2 f0 f1 f2
        generalize (((w3.setCell ⟨w1.heap.size, 0, none⟩ (.int .i64 (e : Int))).setCell ⟨w1.heap.size, 1, none⟩ (.int .i64 (s : Int))).setCell ⟨w1.heap.size, 2, none⟩ (.slice ra yl rc)) = W9 at *
        have HW9 := Lib.hid (HW1.out.below HB19.out)
        have HI9 := Lib.hid (HI.out.below HB9.out)
        have hs9 : Bs ≤ W9.heap.size := HI9.out.sz
        obtain ⟨v0, xs, hbr, ⟨tps, ht1, ht2, ht3⟩, hxl, htx⟩ := HI9.out.row
        rw [hxl] at ht2
        obtain ⟨a0, c0, rfl⟩ := own_form ht2
        have hbn := HI9.out.num
        have hk1 : k ≤ 1000000 := by
          have := sumF_ge FS k (by omega)
          have := HLE.out k
          omega
        have HT1 := Lib.hid ht1
        have HT2 := Lib.hid ht2
        have HT3 := Lib.hid ht3
        have HXL := Lib.hid (And.intro hxl htx)
        have z0 := hbr.cell 0
        have y0 := X9.out.cell 0
        have y1 := X9.out.cell 1
        have y2 := X9.out.cell 2
        simp at z0 y0 y1 y2
        have HBR := Lib.hid (hbr.alloc (.cells #[.int .i64 (e : Int), .int .i64 (s : Int), .slice ra yl rc] 62))
        have HBN := Lib.hid (hbn.alloc (.cells #[.int .i64 (e : Int), .int .i64 (s : Int), .slice ra yl rc] 62))
        have HW9A := Lib.hid (HW9.out.below (bl1 _ (.cells #[.int .i64 (e : Int), .int .i64 (s : Int), .slice ra yl rc] 62)))
        have HT3A := Lib.hid (show ∀ q ∈ tps, WritesO (W9.alloc (.cells #[.int .i64 (e : Int), .int .i64 (s : Int), .slice ra yl rc] 62)) Bs q.x.2 q.v from fun q hq => (HT3.out q hq).below (bl1 _ _))
        have HKA := Lib.hid (show KK Bs W (W9.alloc (.cells #[.int .i64 (e : Int), .int .i64 (s : Int), .slice ra yl rc] 62)) from KK.below (HB9.out.alloc HB9.out.size _))
        have HBA := Lib.hid (show Below w.heap.size w (W9.alloc (.cells #[.int .i64 (e : Int), .int .i64 (s : Int), .slice ra yl rc] 62)) from HI9.out.bel.alloc HI9.out.bel.size _)
        have HSA := Lib.hid (show Bs ≤ (W9.alloc (.cells #[.int .i64 (e : Int), .int .i64 (s : Int), .slice ra yl rc] 62)).heap.size by simp; omega)
        clear hbr hbn ht1 ht2 ht3 hxl htx HW9 HSU HRD b1
        gi_wp2_with (gi_at_builtin; refine wpListIn_append_own _ rfl (.tmp 26) (.tmp 28) 64 rfl Bs 62 i0 (.agg #[.int .i64 0, .int .i64 0, .slice none 0 0]) 3 40 Tryz.underlying64 hi hz0 hz1 hz2 rfl (by decide) _ k (tcells tps) rfl (HT2.out.alloc _) ⟨W9.heap.size, 0, none⟩ 1 1 [.int .i64 (e : Int), .int .i64 (s : Int), .slice ra yl rc] rfl rfl (by intro j u hj; match j, hj with | 0, hj => (simp at hj; subst hj; simp [Addr.add, go_sem]) | 1, hj => (simp at hj; subst hj; simp [Addr.add, go_sem]) | 2, hj => (simp at hj; subst hj; simp [Addr.add, go_sem]) | j + 3, hj => simp at hj) (by intro u hu; simp at hu; rcases hu with rfl | rfl | rfl <;> rfl) (by unfold maxLen; omega) (by omega) (by simp; omega) ?_)
        intro v10 w10 hown10 hgrow10 _
        obtain ⟨a10, c10, rfl⟩ := own_form hown10
        have hnr : ∀ b, b < Bs → some b ≠ (Value.slice a0 k c0).ownBlock := fun b hb e => by
          have := (HT2.out.lt b e.symm).1
          omega
        have hbr10 := HBR.out.kept hgrow10 (hnr w.heap.size (by omega))
        have hbn10 := HBN.out.kept hgrow10 (hnr (w.heap.size + 1) (by omega))
        have HT10 := Lib.hid (TxsO.snoc (p := ⟨((e, s), ys), ra, rc⟩) HT1.out HXL.out.1 (HT2.out.alloc _) HT3A.out (by simp only [TxP.v]; rw [HYL.out]; exact HW9A.out) (by simp only [TxP.cells, TxP.v]; rw [HYL.out]; exact hown10) hgrow10)
        have HK10 := Lib.hid (HKA.out.trans (KK.grow39 (HT2.out.alloc _) hgrow10))
        have HB10 := Lib.hid (HBA.out.grown hgrow10 HBA.out.size (fun j hj => by have := (HT2.out.lt j hj).1; omega))
        have HS10 := Lib.hid (show Bs ≤ w10.heap.size from Nat.le_trans HSA.out hgrow10.size)
        have q0 := hbr10.cell 0
        have q1 := hbn10.cell 0
        have g0 := hbr10.frozen 0
        have g1 := hbn10.frozen 0
        simp only [List.getElem?_toArray, List.getElem?_cons_zero] at q0 q1
        have HBR10 := Lib.hid hbr10
        have HBN10 := Lib.hid hbn10
        obtain ⟨sm, hsm⟩ : ∃ sm, sumF FS k = sm := ⟨_, rfl⟩
        have HSM := Lib.hid (show sumF FS (k + 1) = sm + (8 + pl) by rw [sumF_succ HPX.out.at_, hsm, HPL.out])
        have hsml : sm ≤ 1000000 := by rw [← hsm]; exact HLE.out k
        rw [hsm] at q1
        have e1 : IntKind.i64.wrap (8 + (pl : Int)) = 8 + (pl : Int) := by rw [IntKind.wrap_i64] <;> omega
        have e2 : IntKind.i64.wrap ((sm : Int) + (8 + (pl : Int))) = ((sm + (8 + pl) : Nat) : Int) := by rw [IntKind.wrap_i64] <;> omega
        clear hbr10 hbn10 hown10 hgrow10 hsm
        gi_wp2_with fail
        have hcast : (sm : Int) + (8 + (pl : Int)) = ((sumF FS (k + 1) : Nat) : Int) := by rw [HSM.out]; omega
        rw [hcast]
        have kk1 := KK.box (base := Bs) (i := 0) (.slice a10 (k + 1) c10) HBR10.out (by decide)
        have n1 := BoxC.oth (i := 0) (v := .slice a10 (k + 1) c10) (by omega : w.heap.size ≠ w.heap.size + 1) HBN10.out
        have kk2 := KK.box (base := Bs) (i := 0) (.int .i64 ((sumF FS (k + 1) : Nat) : Int)) n1 (by decide)
        have kf := (HK10.out.trans kk1).trans kk2
        refine ⟨kf.ko.from Bs, kf.kb, ⟨(HB10.out.setCell (p := ⟨w.heap.size, 0, none⟩) (Nat.le_refl _) _).setCell (p := ⟨w.heap.size + 1, 0, none⟩) (by simp) _, n1.put 0 _, ⟨.slice a10 (k + 1) c10, xs ++ [((e, s), ys)], BoxC.oth (by omega) (HBR10.out.put 0 _), (HT10.out.oth (B := w.heap.size) (by omega) (oth_set _ _ _ _)).oth (B := w.heap.size + 1) (by omega) (oth_set _ _ _ _), by simp [HXL.out.1], txsL_go xs HPX.out.at_ HXL.out.2 HX.out⟩, by simpa [World.setCell] using HS10.out⟩⟩
  case done =>
    rintro D W hD hI hK
    obtain ⟨k, hk⟩ : ∃ k, FS.length = k := ⟨_, rfl⟩
    rw [hk] at hI
    have hX : TgX w W5.heap.size FS k W := by
      obtain ⟨v, xs, h1, h2, h3, h4⟩ := hI.row
      exact ⟨hI.bel, hI.num, v, xs, h1, h2, h3, txsL_end xs (by rw [hk]; exact h4)⟩
    show KT _ _
    refine hKT _ _ ?_
    clear hKT hI
    obtain ⟨v0, xs, hbr, hT, hxl, htx⟩ := hX.row
    obtain ⟨a0, c0, rfl⟩ : ∃ a0 c0, v0 = .slice a0 xs.length c0 := by obtain ⟨ps, h1, h2, h3⟩ := hT; exact own_form h2
    have hbn := hX.num
    have hbl := hX.bel
    obtain ⟨sm, hsm⟩ : ∃ sm, sumF FS k = sm := ⟨_, rfl⟩
    rw [hsm] at hbn
    have z0 := hbr.cell 0
    have z1 := hbn.cell 0
    simp only [List.getElem?_toArray, List.getElem?_cons_zero] at z0 z1
    have FQ := Lib.hid (fun V (b : Below W.heap.size W V) => (⟨(b.cell (cell_lt z0)).trans z0, (b.cell (cell_lt z1)).trans z1⟩ : V.cell? ⟨w.heap.size, 0, none⟩ = some (.slice a0 xs.length c0) ∧ V.cell? ⟨w.heap.size + 1, 0, none⟩ = some (.int .i64 (sm : Int))))
    have WH2 := Lib.hid (fun V (b : Below W.heap.size W V) => WH.out V (hbl.trans (b.mono hbl.size)))
    have HTX := Lib.hid (And.intro hT (And.intro htx (And.intro hbl (And.intro hxl hsm))))
    have HKD := Lib.hid hK
    obtain ⟨xl, hxl2⟩ : ∃ xl, xs.length = xl := ⟨_, rfl⟩
    have HXL2 := Lib.hid hxl2
    rw [hxl2] at FQ
    clear hX hbr hT hxl htx hbn hbl z0 z1 hsm hK hxl2 hsq bL bN bF hb5
    go_wp2_with fail
    rename_i KR hKR
    refine Code.wp_mono (Q := Exit.then KR (fun _ _ _ => False)) (fun e a' w' h => by cases e <;> first | exact h | exact h.elim) ?_
    refine wp_region_held_drew (S := (fun X => Below W.heap.size W X)) (by kernel_rfl) ((Below.refl _ _).drew) (fun hHeld => ?_)
    refine tp 0 ?_ rfl (.inl ⟨by rfl, ?_⟩) ?_
    rotate_left
    · intro W hSw; obtain ⟨z0, z1⟩ := FQ.out W hSw; go_simp; try with_reducible rfl
    refine tp 1 ?_ rfl (.inl ⟨by rfl, ?_⟩) ?_
    rotate_left
    · intro W hSw; obtain ⟨z0, z1⟩ := FQ.out W hSw; go_simp; try with_reducible rfl
    refine tp 2 ?_ rfl (.inl ⟨by rfl, ?_⟩) ?_
    rotate_left
    · intro W hSw; obtain ⟨z0, z1⟩ := FQ.out W hSw; go_simp; try with_reducible rfl
    refine tp 3 ?_ rfl (.inl ⟨by rfl, ?_⟩) ?_
    rotate_left
    · intro W hSw; go_simp; try with_reducible rfl
    refine a1 4 rfl (fun K hK => ?_)
    go_simp
    refine (WH2.out _ hHeld).mono ?_; rintro e9 w3 ⟨rfl, hb3⟩
    go_wp2_with fail
    refine hK.out _ _ (step_below hHeld hb3) (fun hHeldn => ?_)
    clear hK K hHeld; have hHeld := hHeldn; clear hHeldn
    try simp only [Act.put, List.setIfInBounds_toArray, List.set_cons_zero, List.set_cons_succ]
    refine tp 5 ?_ rfl (.inl ⟨by rfl, ?_⟩) ?_
    rotate_left
    · intro W hSw; go_simp; try with_reducible rfl
    refine tp 6 ?_ rfl (.inl ⟨by rfl, ?_⟩) ?_
    rotate_left
    · intro W hSw; go_simp; try with_reducible rfl
    refine tp 7 ?_ rfl (.inl ⟨by rfl, ?_⟩) ?_
    rotate_left
    · intro W hSw; go_simp; try with_reducible rfl
    refine tp 8 ?_ rfl (.inl ⟨by rfl, ?_⟩) ?_
    rotate_left
    · intro W hSw; go_simp; try with_reducible rfl
    refine wpAnyH_done (by kernel_rfl) ?_ _
    skip
    refine hKR _ _ ?_
    have hb3 := hHeld
    have hKd : w3.heap[D]? = some (.deferred (some [])) := (hHeld.block D (Array.getElem?_eq_some_iff.1 HKD.out).1).trans HKD.out
    have HB3 := Lib.hid hHeld
    clear hHeld hb3 hKR FQ
    go_wp2_with fail
    rw [Exit.noGoto_ret]
    refine ⟨by simp, .inl ⟨_, _, rfl, run_takeDeferred hKd, ?_⟩⟩
    have hbe : ((sm : Int) == (wl : Int)) = (sm == wl) := by
      by_cases h : sm = wl
      · simp [h]
      · have h2 : ¬ (sm : Int) = (wl : Int) := by omega
        rw [beq_eq_false_iff_ne.2 h, beq_eq_false_iff_ne.2 h2]
    refine ⟨.tuple #[.slice a0 xl c0, .int .i64 (sm : Int), .bool ((sm : Int) == (wl : Int))], by simp [results, Tryz.results25, go_sem], ?_⟩
    obtain ⟨hT, htx, hbl, hxl, hsm⟩ := HTX.out
    have hT9 := ((hT.below HB3.out).own (grownBy_putObj' w3 D (.deferred none)) (fun r e => by cases e; exact ⟨_, hKd, rfl⟩)).base (show w.heap.size ≤ W5.heap.size by omega)
    rw [HXL2.out] at hT9
    refine ⟨.slice a0 xl c0, ?_, ?_, (hbl.trans (HB3.out.mono hbl.size)).trans (belowK_b (w := w) (Nat.le_refl _) _ D _ _ (by omega) hKd rfl rfl)⟩
    · rw [HFS.out, htx, hxl, hsm, HWL.out, hbe]
    · rw [HFS.out, htx]; exact hT9
  case stop =>
    rintro D k W hD hk hX hK
    refine wpIn_wide.2 ?_
    go_wp2_with fail
    obtain ⟨v0, xs, hbr, hT, hxl, htx⟩ := hX.row
    obtain ⟨a0, c0, rfl⟩ : ∃ a0 c0, v0 = .slice a0 xs.length c0 := by obtain ⟨ps, h1, h2, h3⟩ := hT; exact own_form h2
    have hbn := hX.num
    have hbl := hX.bel
    obtain ⟨sm, hsm⟩ : ∃ sm, sumF FS k = sm := ⟨_, rfl⟩
    rw [hsm] at hbn
    have z0 := hbr.cell 0
    have z1 := hbn.cell 0
    simp only [List.getElem?_toArray, List.getElem?_cons_zero] at z0 z1
    have FQ := Lib.hid (fun V (b : Below W.heap.size W V) => (⟨(b.cell (cell_lt z0)).trans z0, (b.cell (cell_lt z1)).trans z1⟩ : V.cell? ⟨w.heap.size, 0, none⟩ = some (.slice a0 xs.length c0) ∧ V.cell? ⟨w.heap.size + 1, 0, none⟩ = some (.int .i64 (sm : Int))))
    have WH2 := Lib.hid (fun V (b : Below W.heap.size W V) => WH.out V (hbl.trans (b.mono hbl.size)))
    have HTX := Lib.hid (And.intro hT (And.intro htx (And.intro hbl (And.intro hxl hsm))))
    have HKD := Lib.hid hK
    obtain ⟨xl, hxl2⟩ : ∃ xl, xs.length = xl := ⟨_, rfl⟩
    have HXL2 := Lib.hid hxl2
    rw [hxl2] at FQ
    clear hX hbr hT hxl htx hbn hbl z0 z1 hsm hK hxl2 hsq bL bN bF hb5
    go_wp2_with fail
    rename_i KR hKR
    refine Code.wp_mono (Q := Exit.then KR (fun _ _ _ => False)) (fun e a' w' h => by cases e <;> first | exact h | exact h.elim) ?_
    refine wp_region_held_drew (S := (fun X => Below W.heap.size W X)) (by kernel_rfl) ((Below.refl _ _).drew) (fun hHeld => ?_)
    refine tp 0 ?_ rfl (.inl ⟨by rfl, ?_⟩) ?_
    rotate_left
    · intro W hSw; obtain ⟨z0, z1⟩ := FQ.out W hSw; go_simp; try with_reducible rfl
    refine tp 1 ?_ rfl (.inl ⟨by rfl, ?_⟩) ?_
    rotate_left
    · intro W hSw; obtain ⟨z0, z1⟩ := FQ.out W hSw; go_simp; try with_reducible rfl
    refine tp 2 ?_ rfl (.inl ⟨by rfl, ?_⟩) ?_
    rotate_left
    · intro W hSw; obtain ⟨z0, z1⟩ := FQ.out W hSw; go_simp; try with_reducible rfl
    refine tp 3 ?_ rfl (.inl ⟨by rfl, ?_⟩) ?_
    rotate_left
    · intro W hSw; go_simp; try with_reducible rfl
    refine a1 4 rfl (fun K hK => ?_)
    go_simp
    refine (WH2.out _ hHeld).mono ?_; rintro e9 w3 ⟨rfl, hb3⟩
    go_wp2_with fail
    refine hK.out _ _ (step_below hHeld hb3) (fun hHeldn => ?_)
    clear hK K hHeld; have hHeld := hHeldn; clear hHeldn
    try simp only [Act.put, List.setIfInBounds_toArray, List.set_cons_zero, List.set_cons_succ]
    refine tp 5 ?_ rfl (.inl ⟨by rfl, ?_⟩) ?_
    rotate_left
    · intro W hSw; go_simp; try with_reducible rfl
    refine tp 6 ?_ rfl (.inl ⟨by rfl, ?_⟩) ?_
    rotate_left
    · intro W hSw; go_simp; try with_reducible rfl
    refine tp 7 ?_ rfl (.inl ⟨by rfl, ?_⟩) ?_
    rotate_left
    · intro W hSw; go_simp; try with_reducible rfl
    refine tp 8 ?_ rfl (.inl ⟨by rfl, ?_⟩) ?_
    rotate_left
    · intro W hSw; go_simp; try with_reducible rfl
    refine wpAnyH_done (by kernel_rfl) ?_ _
    skip
    refine hKR _ _ ?_
    have hb3 := hHeld
    have hKd : w3.heap[D]? = some (.deferred (some [])) := (hHeld.block D (Array.getElem?_eq_some_iff.1 HKD.out).1).trans HKD.out
    have HB3 := Lib.hid hHeld
    clear hHeld hb3 hKR FQ
    go_wp2_with fail
    rw [Exit.noGoto_ret]
    refine ⟨by simp, .inl ⟨_, _, rfl, run_takeDeferred hKd, ?_⟩⟩
    have hbe : ((sm : Int) == (wl : Int)) = (sm == wl) := by
      by_cases h : sm = wl
      · simp [h]
      · have h2 : ¬ (sm : Int) = (wl : Int) := by omega
        rw [beq_eq_false_iff_ne.2 h, beq_eq_false_iff_ne.2 h2]
    refine ⟨.tuple #[.slice a0 xl c0, .int .i64 (sm : Int), .bool ((sm : Int) == (wl : Int))], by simp [results, Tryz.results25, go_sem], ?_⟩
    obtain ⟨hT, htx, hbl, hxl, hsm⟩ := HTX.out
    have hT9 := ((hT.below HB3.out).own (grownBy_putObj' w3 D (.deferred none)) (fun r e => by cases e; exact ⟨_, hKd, rfl⟩)).base (show w.heap.size ≤ W5.heap.size by omega)
    rw [HXL2.out] at hT9
    refine ⟨.slice a0 xl c0, ?_, ?_, (hbl.trans (HB3.out.mono hbl.size)).trans (belowK_b (w := w) (Nat.le_refl _) _ D _ _ (by omega) hKd rfl rfl)⟩
    · rw [HFS.out, htx, hxl, hsm, HWL.out, hbe]
    · rw [HFS.out, htx]; exact hT9
end Go.Proofs.YtglkndoghnblcaaGreatDoor
namespace Go.Proofs.YtglkndoghnblcaaGreatDoor
open Go.ChangeShapes Go.WideShapes Go.ChangeAt Go.RowKit
set_option linter.unusedVariables false
set_option linter.unusedSimpArgs false
end Go.Proofs.YtglkndoghnblcaaGreatDoor
namespace Go.Proofs.YtglkndoghnblcaaGreatDoor
open Go.ChangeShapes Go.WideShapes Go.ChangeAt Go.RowKit
set_option linter.unusedVariables false
set_option linter.unusedSimpArgs false
/-- What stands while read ends. -/
structure DuS (N B e s : Nat) (w4 : World) (R3 : List Int) (X : World) : Prop where
  b4 : BoxC X N #[.int .i64 (e : Int), .int .i64 (s : Int)] 74
  b5 : ∃ y : Int, BoxC X (N + 1) #[.int .i64 y] 26
  bel : Below N w4 X
  rds : RdS X B R3
  sz : N + 1 + 1 ≤ X.heap.size
end Go.Proofs.YtglkndoghnblcaaGreatDoor
namespace Go.Proofs.YtglkndoghnblcaaGreatDoor
open Go.ChangeShapes Go.WideShapes Go.ChangeAt Go.RowKit
set_option linter.unusedVariables false
set_option linter.unusedSimpArgs false
/-- The payload of the one frame that the bytes are. -/
def onlyL (L : List Int) : List Int := if isL L = true ∧ L.length = 8 + lenL L then bodyL L else []
theorem onlyL_len (L : List Int) : (onlyL L).length ≤ 4096 := by
  unfold onlyL
  split
  · rename_i h
    rw [bodyL_len h.1]
    exact (isL_iff.1 h.1).2.2.1
  · simp
theorem onlyL_byt {L : List Int} (h : Byt L) : Byt (onlyL L) := by
  unfold onlyL
  split
  · exact (h.drop 8).take _
  · intro x hx; cases hx
set_option maxRecDepth 100000 in
set_option maxHeartbeats 4000000 in
/-- only (96). -/
theorem only_law (a : Option Addr) (L : List Int) (n cap : Nat) (hn : L.length = n) (hn2 : n ≤ 1000000) (hB : Byt L) (w : World) (hL : Ls .u8 w a cap L) :
    Calls Tryz.prog 63 #[.slice a n cap] w fun r w' => ∃ a' c', r = .returned (.slice a' (onlyL L).length c') ∧ Ls .u8 w' a' c' (onlyL L) ∧ Below w.heap.size w w' := by
  have HF := Lib.hid (first_law a L n cap hn hn2 hB w hL)
  have HN := Lib.hid hn
  have hni : (n : Int) ≤ 1000000 := by omega
  clear hn hB hL
  go_enter Tryz.func63, Tryz.ntmps63
  go_wp2_with fail
  refine HF.out.mono ?_
  rintro r w1 ⟨a', m, c', rfl, h1, b1⟩
  cases hi : isL L with
  | false =>
    have HO := Lib.hid (show onlyL L = [] by unfold onlyL; rw [if_neg (by rw [hi]; simp)])
    have HB := Lib.hid b1
    clear h1 hi b1
    go_wp2_with fail
    go_ret
    exact ⟨none, 0, by rw [HO.out]; rfl, by rw [HO.out]; exact Ls.nul _ _, HB.out⟩
  | true =>
    obtain ⟨hm, hl⟩ := h1 hi
    have hm4 : m ≤ 4096 := by rw [hm]; exact (isL_iff.1 hi).2.2.1
    have hbl := bodyL_len hi
    have HB := Lib.hid b1
    have hw1 : IntKind.i64.wrap (8 + (m : Int)) = 8 + (m : Int) := by rw [IntKind.wrap_i64] <;> omega
    by_cases he : n = 8 + m
    · have d1 : ((n : Int) == 8 + (m : Int)) = true := by simp; omega
      have HO := Lib.hid (show onlyL L = bodyL L by unfold onlyL; rw [if_pos ⟨hi, by rw [HN.out, he, hm]⟩])
      have HL := Lib.hid (And.intro hl (And.intro hbl hm))
      clear h1 hi b1 hl hbl hm he
      go_wp2_with fail
      go_ret
      exact ⟨a', c', by rw [HO.out, HL.out.2.1, ← HL.out.2.2]; rfl, by rw [HO.out]; exact HL.out.1, HB.out⟩
    · have d1 : ((n : Int) == 8 + (m : Int)) = false := by simp; omega
      have HO := Lib.hid (show onlyL L = [] by unfold onlyL; rw [if_neg (fun q => he (by rw [← HN.out, q.2, hm]))])
      clear h1 hi b1 hl hbl hm he
      go_wp2_with fail
      go_ret
      exact ⟨none, 0, by rw [HO.out]; rfl, by rw [HO.out]; exact Ls.nul _ _, HB.out⟩
end Go.Proofs.YtglkndoghnblcaaGreatDoor
namespace Go.Proofs.YtglkndoghnblcaaGreatDoor
open Go.ChangeShapes Go.WideShapes Go.ChangeAt Go.RowKit
set_option linter.unusedVariables false
set_option linter.unusedSimpArgs false
/-- Frame, where it may be. -/
theorem frame_ok (a : Option Addr) (P : List Int) (n cap : Nat) (hn : P.length = n) (h1 : 1 ≤ P.length) (h2 : P.length ≤ 4096) (hB : Byt P) (w : World) (hL : Ls .u8 w a cap P) :
    Calls Tryz.prog 21 #[.slice a n cap] w fun r w' => ∃ a' c', r = .returned (.tuple #[.slice a' (8 + P.length) c', .int .i64 0]) ∧ w'.ownsRow w.heap.size 5 1 (.slice a' (8 + P.length) c') (8 + P.length) (iv .u8 (frameL P)) ∧ Ls .u8 w' a' c' (frameL P) ∧ Below w.heap.size w w' := by
  refine (frame_law a P n cap hn (by omega) hB w hL).mono ?_
  rintro r w' (⟨h, _⟩ | ⟨h, _⟩ | ⟨_, _, h⟩)
  · omega
  · omega
  · exact h
theorem tidW_byt (e s : Nat) : Byt (tidW e s) := Byt.append (numW_byt _) (numW_byt _)
end Go.Proofs.YtglkndoghnblcaaGreatDoor
namespace Go.Proofs.YtglkndoghnblcaaGreatDoor
open Go.ChangeShapes Go.WideShapes Go.ChangeAt Go.RowKit
set_option linter.unusedVariables false
set_option linter.unusedSimpArgs false
set_option maxRecDepth 100000 in
set_option maxHeartbeats 4000000 in
/-- name (99). -/
theorem name_law {W : World} {B : Nat} {R : List Int} (h : RdS W B R) :
    Calls Tryz.prog 66 #[.pointer (some ⟨B, 0, none⟩)] W (GetR W B (bytesP 24 R) (fun x _ v => v = .string (strOfNums x))) := by
  have HB := Lib.hid (rbytes_law h 24 (by decide))
  clear h
  go_enter Tryz.func66, Tryz.ntmps66
  go_wp2_with fail
  refine HB.out.mono ?_
  rintro r w2 ⟨⟨h1, ⟨e, he, rfl⟩, h2⟩ | ⟨b, R', a, c, h1, rfl, h2, h3⟩, g⟩
  · have HX := Lib.hid h1
    have HE := Lib.hid he.ne.2.2
    have G := Lib.hid g
    clear h1 h2 he g
    go_wp2_with fail
    refine (must_bytes_no _ e HE.out _).mono ?_
    rintro r w' ⟨rfl, rfl⟩
    go_wp2_with fail
    first | exact ⟨rfl, .inl ⟨HX.out, rfl⟩, G.out⟩ | exact ⟨.inl ⟨HX.out, rfl⟩, G.out⟩
  · obtain ⟨a2, c2, e2, l2, _⟩ := own_ls h2 rfl
    cases e2
    have HX := Lib.hid h1
    have HS := Lib.hid h3
    have G := Lib.hid g
    have hcv := conv_ls w2 a b.length c b rfl l2.rd
    obtain ⟨bl, hbl⟩ : ∃ bl, b.length = bl := ⟨_, rfl⟩
    rw [hbl] at hcv ⊢
    clear h1 h2 h3 g l2 hbl HB
    go_wp2_with fail
    refine (must_bytes_ok _ _).mono ?_
    rintro r w' ⟨rfl, rfl⟩
    go_wp2_with fail
    go_ret
    exact ⟨.inr ⟨_, _, _, HX.out, rfl, rfl, HS.out⟩, G.out⟩
abbrev Pt2 := List Int × Nat
def partP (L : List Int) : Option (Pt2 × List Int) := match bytesP 24 L with
  | some (b, r) => (match upP 16777215 r with
    | some (t, r') => some ((b, t), r')
    | none => none)
  | none => none
theorem partP_1 {L : List Int} (h : bytesP 24 L = none) : partP L = none := by unfold partP; rw [h]
theorem partP_2 {L r b : List Int} (h : bytesP 24 L = some (b, r)) (k : upP 16777215 r = none) : partP L = none := by unfold partP; rw [h]; simp only; rw [k]
theorem partP_3 {L r r' b : List Int} {t : Nat} (h : bytesP 24 L = some (b, r)) (k : upP 16777215 r = some (t, r')) : partP L = some ((b, t), r') := by unfold partP; rw [h]; simp only; rw [k]
def ptV (x : Pt2) : Value := .agg #[.string (strOfNums x.1), .int .i64 (x.2 : Int)]
set_option maxRecDepth 100000 in
set_option maxHeartbeats 4000000 in
/-- part (101). -/
theorem part_law {W : World} {B : Nat} {R : List Int} (h : RdS W B R) :
    Calls Tryz.prog 68 #[.pointer (some ⟨B, 0, none⟩)] W (GetR W B (partP R) (fun x _ v => v = ptV x)) := by
  have hlt := h.lt
  have HR := Lib.hid h
  clear h
  go_enter Tryz.func68, Tryz.ntmps68
  go_upto_region 1 with (fail)
  obtain ⟨W1, hW1⟩ : ∃ W1, W.alloc (.cells #[.string { data := #[] }, .int .i64 0] 42) = W1 := ⟨_, rfl⟩
  have hb1 : Below W.heap.size W W1 := by rw [← hW1]; exact bl1 _ _
  have bx : BoxC W1 W.heap.size #[.string { data := #[] }, .int .i64 0] 42 := by rw [← hW1]; exact BoxC.new W _ 42
  have hsz : W1.heap.size = W.heap.size + 1 := by rw [← hW1]; simp
  try rw [hW1]
  clear hW1
  have HU := Lib.hid (name_law (HR.out.below hb1))
  have HB1 := Lib.hid hb1
  have BX := Lib.hid bx
  clear hb1 bx
  go_wp2_with fail
  refine HU.out.mono ?_
  rintro r w2 ⟨⟨e1, rfl⟩ | ⟨b, R2, v, e1, rfl, rfl, r2⟩, g2⟩
  · have HX := Lib.hid (partP_1 e1)
    have G := Lib.hid (oth_trans (oth_below B HB1.out) g2)
    clear e1 g2
    go_wp2_with fail
    first | exact ⟨rfl, .inl ⟨HX.out, rfl⟩, G.out⟩ | exact ⟨.inl ⟨HX.out, rfl⟩, G.out⟩
  · have E1 := Lib.hid e1
    have HG := Lib.hid g2
    have HU2 := Lib.hid (upto_law r2 16777215 (by decide))
    obtain ⟨st, hst⟩ : ∃ st, strOfNums b = st := ⟨_, rfl⟩
    have HST := Lib.hid hst
    rw [hst]
    clear e1 g2 r2 hst
    go_wp2_with fail
    refine HU2.out.mono ?_
    rintro r w3 ⟨⟨e2, rfl⟩ | ⟨t, R3, v, e2, rfl, rfl, r3⟩, g3⟩
    · have HX := Lib.hid (partP_2 E1.out e2)
      have G := Lib.hid (oth_trans (oth_below B HB1.out) (oth_trans HG.out g3))
      clear e2 g3
      go_wp2_with fail
      first | exact ⟨rfl, .inl ⟨HX.out, rfl⟩, G.out⟩ | exact ⟨.inl ⟨HX.out, rfl⟩, G.out⟩
    · have HX := Lib.hid (partP_3 E1.out e2)
      have G23 := oth_trans HG.out g3
      have G := Lib.hid (oth_trans (oth_below B HB1.out) G23)
      have RR := Lib.hid r3
      have bx3 := BX.out.gr G23 (by omega)
      have z0 := bx3.cell 0
      have z1 := bx3.cell 1
      have f0 := bx3.frozen 0
      have f1 := bx3.frozen 1
      simp only [List.getElem?_toArray, List.getElem?_cons_zero, List.getElem?_cons_succ] at z0 z1
      have HX9 := Lib.hid ((bx3.put 0 (.string st)).put 1 (.int .i64 (t : Int)))
      have HB9 := Lib.hid (((Below.refl W.heap.size w3).setCell (p := ⟨W.heap.size, 0, none⟩) (Nat.le_refl _) (.string st)).setCell (p := ⟨W.heap.size, 1, none⟩) (Nat.le_refl _) (.int .i64 (t : Int)))
      clear e2 g3 r3 G23 bx3
      go_wp2_with fail
      generalize ((w3.setCell ⟨W.heap.size, 0, none⟩ (.string st)).setCell ⟨W.heap.size, 1, none⟩ (.int .i64 (t : Int))) = W9 at *
      refine bodyPost_ret (v := .agg #[.string st, .int .i64 (t : Int)]) ?_ rfl ⟨.inr ⟨_, _, _, HX.out, rfl, by show _ = ptV (b, t); simp only [ptV, HST.out], RR.out.below1 (HB9.out.mono (by omega))⟩, grown_below G.out HB9.out⟩
      have x0 := HX9.out.cell 0
      have x1 := HX9.out.cell 1
      simp at x0 x1
      simp [results, Tryz.results68, go_sem, x0, x1]
set_option maxRecDepth 100000 in
set_option maxHeartbeats 4000000 in
/-- list's function at parts (150). -/
theorem pclos_law {W : World} {B Bx : Nat} {R : List Int} (h : RdS W B R) (hx : W.cell? ⟨Bx, 0, none⟩ = some (.func (.func 68) #[] #[])) :
    Calls Tryz.prog 117 #[.pointer (some ⟨B, 0, none⟩), .pointer (some ⟨Bx, 0, none⟩)] W (ClR W B (partP R) (fun x _ v => v = ptV x)) := by
  have hlt := h.lt
  have HR := Lib.hid h
  have hxl := cell_lt hx
  clear h
  go_enter Tryz.func117, Tryz.ntmps117
  go_upto_region 1 with (fail)
  obtain ⟨W1, hW1⟩ : ∃ W1, W.alloc (.cells #[.string { data := #[] }, .int .i64 0] 42) = W1 := ⟨_, rfl⟩
  have hb1 : Below W.heap.size W W1 := by rw [← hW1]; exact bl1 _ _
  have bx : BoxC W1 W.heap.size #[.string { data := #[] }, .int .i64 0] 42 := by rw [← hW1]; exact BoxC.new W _ 42
  have hsz : W1.heap.size = W.heap.size + 1 := by rw [← hW1]; simp
  have hx1 := (hb1.cell hxl).trans hx
  try rw [hW1]
  clear hW1 hx
  have HW := Lib.hid (part_law (HR.out.below hb1))
  have HB1 := Lib.hid hb1
  have BX := Lib.hid bx
  clear hb1 bx
  go_wp2_with fail
  refine HW.out.mono ?_
  rintro r w3 ⟨⟨e1, rfl⟩ | ⟨⟨b, t⟩, R2, v, e1, rfl, rfl, r2⟩, g2⟩
  · have HX := Lib.hid e1
    have G := Lib.hid (oth_trans (oth_below B HB1.out) g2)
    clear e1 g2
    go_wp2_with fail
    first | exact ⟨rfl, .inl ⟨HX.out, rfl⟩, G.out⟩ | exact ⟨.inl ⟨HX.out, rfl⟩, G.out⟩
  have HX := Lib.hid e1
  have G := Lib.hid (oth_trans (oth_below B HB1.out) g2)
  have RR := Lib.hid r2
  have bx3 := BX.out.gr g2 (by omega)
  obtain ⟨st, hst⟩ : ∃ st, strOfNums b = st := ⟨_, rfl⟩
  have HST := Lib.hid hst
  simp only [ptV]
  rw [hst]
  have z0 := bx3.cell 0
  have z1 := bx3.cell 1
  have f0 := bx3.frozen 0
  have f1 := bx3.frozen 1
  simp only [List.getElem?_toArray, List.getElem?_cons_zero, List.getElem?_cons_succ] at z0 z1
  have HX9 := Lib.hid ((bx3.put 0 (.string st)).put 1 (.int .i64 (t : Int)))
  have HB9 := Lib.hid (((Below.refl W.heap.size w3).setCell (p := ⟨W.heap.size, 0, none⟩) (Nat.le_refl _) (.string st)).setCell (p := ⟨W.heap.size, 1, none⟩) (Nat.le_refl _) (.int .i64 (t : Int)))
  clear e1 g2 r2 bx3 hst
  go_wp2_with fail
  generalize ((w3.setCell ⟨W.heap.size, 0, none⟩ (.string st)).setCell ⟨W.heap.size, 1, none⟩ (.int .i64 (t : Int))) = W9 at *
  refine bodyPost_ret (v := .tuple #[.agg #[.string st, .int .i64 (t : Int)], .int .i64 0]) ?_ rfl ⟨.inr ⟨_, _, _, HX.out, rfl, by show _ = ptV (b, t); simp only [ptV, HST.out], RR.out.below1 (HB9.out.mono (by omega))⟩, grown_below G.out HB9.out⟩
  have x0 := HX9.out.cell 0
  have x1 := HX9.out.cell 1
  simp at x0 x1
  simp [results, Tryz.results117, go_sem, x0, x1]
end Go.Proofs.YtglkndoghnblcaaGreatDoor
namespace Go.Proofs.YtglkndoghnblcaaGreatDoor
open Go.ChangeShapes Go.WideShapes Go.ChangeAt Go.RowKit
set_option linter.unusedVariables false
set_option linter.unusedSimpArgs false
def pcells (xs : List Pt2) : List Value := (xs.map fun x => [Value.string (strOfNums x.1), Value.int .i64 (x.2 : Int)]).flatten
/-- Parts that were read, owned. -/
def PartsO (w : World) (base : Nat) (xs : List Pt2) (v : Value) : Prop := w.ownsRow base 42 2 v xs.length (pcells xs)
theorem PartsO.nil (w : World) (base : Nat) : PartsO w base [] (.slice none 0 0) := World.ownsRow_nil _ _ _ _
theorem PartsO.oth {w w' : World} {base B : Nat} {xs : List Pt2} {v : Value} (h : PartsO w base xs v) (hB : B < base) (g : w.grownBy w' (some B)) : PartsO w' base xs v := own_oth h hB g
theorem PartsO.base {w : World} {b b' : Nat} {xs : List Pt2} {v : Value} (hb : b ≤ b') (h : PartsO w b' xs v) : PartsO w b xs v := own_base hb h
theorem PartsO.below {w w' : World} {base : Nat} {xs : List Pt2} {v : Value} (h : PartsO w base xs v) (b : Below w.heap.size w w') : PartsO w' base xs v := own_below h b
theorem info76 : (Tryz.prog.info? 42).map (fun i => (i.zero, i.size, i.bytes)) = some (some (.agg #[.string { data := #[] }, .int .i64 0]), 2, 24) := by kernel_rfl
set_option maxRecDepth 100000 in
theorem hnf212 (f : Fn) (c1 c2 : Array Value) (w : World) : (binOp .eql 178 (.func f c1 c2) .nilFunc).run Tryz.prog w = .ok (.bool false) w := by
  first | rfl | simp [binOp, run_underlying Tryz.underlying178] | simp [binOp, Op.equal, run_underlying Tryz.underlying178, go_sem]
set_option maxRecDepth 100000 in
set_option maxHeartbeats 4000000 in
/-- Take at parts (149). -/
theorem takeparts_law {W : World} {B Bx : Nat} {R0 : List Int} (hR : RdS W B R0) (hx : W.cell? ⟨Bx, 0, none⟩ = some (.func (.func 68) #[] #[])) (hne : Bx ≠ B) (most : Nat) (hm : most ≤ 1000000) :
    Calls Tryz.prog 116 #[.pointer (some ⟨B, 0, none⟩), .int .i64 (most : Int), .func (.func 117) #[] #[.pointer (some ⟨Bx, 0, none⟩)]] W (TkP W B (listP most partP R0) PartsO) := by
  obtain ⟨i0, hi, hz0, hz1, hz2⟩ := info_parts info76
  obtain ⟨ad, cap, n, L, p, h, hd, hn, hBY⟩ := hR
  have e0 := h.c0
  have e1 := h.c1
  have e2 := h.c2
  have H := Lib.hid h
  have hbl := h.lt
  have hxl := cell_lt hx
  simp only at hxl
  have hnf := hnf212
  have HN := Lib.hid (And.intro hn (And.intro hBY hd))
  clear h hd hn hBY
  have HXX := Lib.hid hx
  clear hx
  go_enter Tryz.func116, Tryz.ntmps116
  go_wp2_with fail
  refine (none_law H.out).mono ?_; rintro e w' ⟨rfl, rfl⟩
  go_wp2_with fail
  have B0 : Below W.heap.size W (W.alloc (.cells #[.slice ad n cap, .int .i64 (p : Int), .bool true] 196)) := (Below.refl _ _).alloc (Nat.le_refl _) _
  have h1 := H.out.below B0
  have kb : BoxC (W.alloc (.cells #[.slice ad n cap, .int .i64 (p : Int), .bool true] 196)) W.heap.size #[.slice ad n cap, .int .i64 (p : Int), .bool true] 196 := BoxC.new _ _ _
  have hsz : (W.alloc (.cells #[.slice ad n cap, .int .i64 (p : Int), .bool true] 196)).heap.size = W.heap.size + 1 := by simp
  clear e0 e1 e2
  generalize W.alloc (.cells #[.slice ad n cap, .int .i64 (p : Int), .bool true] 196) = W1 at B0 h1 kb hsz ⊢
  have HB0 := Lib.hid B0
  have KB := Lib.hid kb
  have FX1 := Lib.hid ((B0.cell (p := ⟨Bx, 0, none⟩) hxl).trans HXX.out)
  refine (count_law h1 HN.out.1 HN.out.2.1 most hm).mono ?_
  clear h1 B0 kb HXX
  rintro r w2 ⟨⟨hno, ⟨e, x, he, rfl⟩, q, h2⟩ | ⟨c0, q, hup, hvm, hqn, rfl, h2⟩, g2⟩
  · have HNO := Lib.hid (show listP most partP R0 = none from listP_none (by rw [← HN.out.2.2]; exact hno))
    have kb2 := KB.out.gr g2 (by omega)
    have k0 := kb2.cell 0
    have k1 := kb2.cell 1
    have k2 := kb2.cell 2
    simp only [List.getElem?_toArray, List.getElem?_cons_zero, List.getElem?_cons_succ] at k0 k1 k2
    obtain ⟨z1, z2, z3⟩ := he.ne
    have HER := Lib.hid he
    have e0 := h2.c0
    have e1 := h2.c1
    have e2 := h2.c2
    have f0 := h2.f0
    have f1 := h2.f1
    have f2 := h2.f2
    have HG := Lib.hid (oth_trans (oth_below B HB0.out) g2)
    clear h2 g2 kb2 hno he
    by_cases hx0 : (0 : Int) < x
    · go_wp2_with fail
      go_loopw [10, 11, 12] (fun e' v i wr => e' = .int .i64 e ∧ v = .slice none 0 0 ∧ i = .int .u64 0 ∧ w2 = wr) (fun _ _ i _ => 0)
      case atStart => exact ⟨rfl, rfl, rfl, rfl⟩
      case round =>
        obtain ⟨rfl, rfl, rfl, rfl⟩ := hrel
        go_wp2_with fail
        go_ret2
        exact ⟨.inl ⟨HNO.out, .inl ⟨e, HER.out, rfl⟩⟩, oth_trans HG.out (oth_trans (oth_set _ _ _ _) (oth_trans (oth_set _ _ _ _) (oth_set _ _ _ _)))⟩
    · go_wp2_with fail
      go_loopw [10, 11, 12] (fun e' v i wr => e' = .int .i64 e ∧ v = .slice none 0 0 ∧ i = .int .u64 0 ∧ w2 = wr) (fun _ _ i _ => 0)
      case atStart => exact ⟨rfl, rfl, rfl, rfl⟩
      case round =>
        obtain ⟨rfl, rfl, rfl, rfl⟩ := hrel
        go_wp2_with fail
        go_ret2
        exact ⟨.inl ⟨HNO.out, .inl ⟨e, HER.out, rfl⟩⟩, oth_trans HG.out (oth_trans (oth_set _ _ _ _) (oth_trans (oth_set _ _ _ _) (oth_set _ _ _ _)))⟩
  · have hcm : c0 ≤ 1000000 := by omega
    have HTG := Lib.hid (show listP most partP R0 = addP [] (manyP partP (c0 - 0) (L.drop q)) from listP_eq (by rw [← HN.out.2.2]; exact hup))
    have HS2 := Lib.hid (show RdS w2 B (L.drop q) from ⟨ad, cap, n, L, q, h2, rfl, HN.out.1, HN.out.2.1⟩)
    have FX2 := Lib.hid (g2.cell FX1.out (by intro e; injection e with e'; exact hne e'))
    have HG := Lib.hid (oth_trans (oth_below B HB0.out) g2)
    have HSZ := Lib.hid (show W.heap.size + 1 ≤ w2.heap.size by rw [← hsz]; exact g2.size)
    clear h2 g2 hup hsz hvm hqn
    go_wp2_with fail
    go_loopw [10, 11, 12] (fun e v i wr => e = .int .i64 0 ∧ ∃ (k : Nat) (fs : List Pt2) (Rk : List Int), k ≤ c0 ∧ i = .int .u64 (k : Int) ∧ Hid (fs.length = k ∧ listP most partP R0 = addP fs (manyP partP (c0 - k) Rk)) ∧ Hid (PartsO wr (W.heap.size + 1) fs v) ∧ Hid (RdS wr B Rk) ∧ Hid (wr.cell? ⟨Bx, 0, none⟩ = some (.func (.func 68) #[] #[])) ∧ Hid (W.grownBy wr (some B)) ∧ Hid (W.heap.size + 1 ≤ wr.heap.size)) (fun _ _ i _ => c0 - (intOf i).toNat)
    case atStart => exact ⟨rfl, 0, [], _, by omega, rfl, Lib.hid ⟨rfl, HTG.out⟩, Lib.hid (PartsO.nil _ _), HS2, FX2, HG, HSZ⟩
    case round =>
      clear HTG HS2 FX2 HG HSZ FX1 KB HB0
      obtain ⟨rfl, k, fs, Rk, hk, rfl, HL, HO, HS, FX, HG, HSZ⟩ := hrel
      by_cases hkc : k < c0
      · have hkci : (k : Int) < (c0 : Int) := by omega
        go_upto_region 10 with (fail)
        obtain ⟨W3, hW3⟩ : ∃ W3, wr.alloc (.cells #[.string { data := #[] }, .int .i64 0] 42) = W3 := ⟨_, rfl⟩
        have hb3 : Below wr.heap.size wr W3 := by rw [← hW3]; exact bl1 _ _
        have bx3 : BoxC W3 wr.heap.size #[.string { data := #[] }, .int .i64 0] 42 := by rw [← hW3]; exact BoxC.new wr _ 42
        have hs3 : wr.heap.size + 1 = W3.heap.size := by rw [← hW3]; simp
        try rw [hW3]
        clear hW3
        have hsB : B < wr.heap.size := HS.out.lt
        have RO := Lib.hid (pclos_law (HS.out.below hb3) ((hb3.cell (cell_lt FX.out)).trans FX.out))
        obtain ⟨Nx, hNx⟩ : ∃ N, wr.heap.size = N := ⟨_, rfl⟩
        have HNX := Lib.hid hNx
        have HSZ2 := Lib.hid (show W.heap.size + 1 ≤ Nx by rw [← hNx]; exact HSZ.out)
        rw [hNx] at bx3 hs3 hsB ⊢
        have HB3 := Lib.hid hb3
        have BX3 := Lib.hid bx3
        clear hNx hb3 bx3
        go_wp2_with fail
        refine RO.out.mono ?_
        rintro e w4 ⟨⟨h1, rfl⟩ | ⟨x, R', v1, h1, rfl, hv, h3⟩, g1⟩
        · have HNO := Lib.hid (show listP most partP R0 = none by rw [HL.out.2]; exact manyP_stop hkc fs h1)
          have G := Lib.hid (oth_trans HG.out (oth_trans (oth_below B HB3.out) g1))
          clear h1 g1
          go_wp2_with fail
          first | exact ⟨rfl, .inl ⟨HNO.out, .inr rfl⟩, G.out⟩ | exact ⟨.inl ⟨HNO.out, .inr rfl⟩, G.out⟩
        · obtain ⟨bb, t⟩ := x
          obtain rfl : v1 = ptV (bb, t) := hv
          have HNXT := Lib.hid (show listP most partP R0 = addP (fs ++ [(bb, t)]) (manyP partP (c0 - (k + 1)) R') by rw [HL.out.2]; exact manyP_next hkc fs h1)
          have X4 := Lib.hid (BX3.out.gr g1 (by omega))
          have HS4 := Lib.hid h3
          have G4 := Lib.hid g1
          have hs4 : Nx + 1 ≤ w4.heap.size := by rw [hs3]; exact g1.size
          obtain ⟨st, hst⟩ : ∃ st, strOfNums bb = st := ⟨_, rfl⟩
          have HST := Lib.hid hst
          simp only [ptV]
          rw [hst]
          clear h3 g1 h1 BX3 RO hst
          have x0 := X4.out.cell 0
          have x1 := X4.out.cell 1
          have f0 := X4.out.frozen 0
          have f1 := X4.out.frozen 1
          simp only [List.getElem?_toArray, List.getElem?_cons_zero, List.getElem?_cons_succ] at x0 x1
          have X5 := Lib.hid ((X4.out.put 0 (.string st)).put 1 (.int .i64 (t : Int)))
          have G5 := Lib.hid (show w4.grownBy ((w4.setCell ⟨Nx, 0, none⟩ (.string st)).setCell ⟨Nx, 1, none⟩ (.int .i64 (t : Int))) (some Nx) from oth_trans (oth_set _ _ _ _) (oth_set _ _ _ _))
          have B5 := Lib.hid (((Below.refl Nx w4).setCell (p := ⟨Nx, 0, none⟩) (Nat.le_refl _) (.string st)).setCell (p := ⟨Nx, 1, none⟩) (Nat.le_refl _) (.int .i64 (t : Int)))
          have hs5 : ((w4.setCell ⟨Nx, 0, none⟩ (.string st)).setCell ⟨Nx, 1, none⟩ (.int .i64 (t : Int))).heap.size = w4.heap.size := by simp [World.setCell]
          go_upto_region 11 with (fail)
          clear x0 x1 f0 f1
          generalize ((w4.setCell ⟨Nx, 0, none⟩ (.string st)).setCell ⟨Nx, 1, none⟩ (.int .i64 (t : Int))) = W5 at *
          have gr5 : wr.grownBy W5 (some B) := by
            have a := oth_trans (oth_below B HB3.out) G4.out
            exact grown_below a (by rw [HNX.out]; exact B5.out)
          have HSB := HSZ2.out
          have HO5 := HO.out.oth (by omega : B < W.heap.size + 1) gr5
          have HS5 := Lib.hid (HS4.out.below1 (B5.out.mono (by omega)))
          have FX5 := Lib.hid (gr5.cell FX.out (by intro e; injection e with e'; exact hne e'))
          have HG5 := Lib.hid (oth_trans HG.out gr5)
          have hs5' : W.heap.size + 1 ≤ W5.heap.size := by omega
          have HZ5 := Lib.hid hs5'
          have hp2 := HO5
          unfold PartsO at hp2
          rw [HL.out.1] at hp2
          have HP2 := Lib.hid hp2
          have y0 := X5.out.cell 0
          have y1 := X5.out.cell 1
          simp at y0 y1
          have hal : Below (W.heap.size + 1) W5 (W5.alloc (.cells #[.string st, .int .i64 (t : Int)] 42)) := (Below.refl _ W5).alloc hs5' _
          have HAL := Lib.hid hal
          clear gr5 HS4 G4 B5 G5 X4 HO HS FX HG hp2 HB3 hal hs5 HO5
          go_wp2_with (at_builtin; refine wpList_append_own _ rfl (.tmp 44) (.tmp 46) 37 rfl (W.heap.size + 1) 42 i0 (.agg #[.string { data := #[] }, .int .i64 0]) 2 24 Tryz.underlying37 hi hz0 hz1 hz2 rfl (by decide) _ k (pcells fs) rfl (HP2.out.alloc _) ⟨W5.heap.size, 0, none⟩ 1 1 [.string st, .int .i64 (t : Int)] rfl rfl (by intro j u hj; match j, hj with | 0, hj => (simp at hj; subst hj; simp [Addr.add, go_sem]) | 1, hj => (simp at hj; subst hj; simp [Addr.add, go_sem]) | j + 2, hj => simp at hj) (by intro u hu; simp at hu; rcases hu with rfl | rfl <;> rfl) (by unfold maxLen; omega) (by omega) (by simp; omega) ?_)
          intro v6 w6 hown6 hgrow6 _
          have b6 : Below (W.heap.size + 1) W5 w6 := HAL.out.grown hgrow6 (by simp; omega) (fun j hj => (HP2.out.lt j hj).1)
          have HO6 := Lib.hid (show PartsO w6 (W.heap.size + 1) (fs ++ [(bb, t)]) v6 by
            unfold PartsO
            rw [List.length_append, HL.out.1]
            have e : pcells (fs ++ [(bb, t)]) = pcells fs ++ [.string st, .int .i64 (t : Int)] := by simp [pcells, HST.out]
            rw [e]
            exact hown6)
          have HR6 := Lib.hid (HS5.out.below1 (b6.mono (by omega)))
          have FX6 := Lib.hid ((b6.cell (p := ⟨Bx, 0, none⟩) (by simp; omega)).trans FX5.out)
          have HG6 := Lib.hid (grown_below HG5.out (b6.mono (by omega)))
          have HSZ6 := Lib.hid (show W.heap.size + 1 ≤ w6.heap.size from Nat.le_trans HZ5.out b6.size)
          have HL6 := Lib.hid (show (fs ++ [(bb, t)]).length = k + 1 by rw [List.length_append, HL.out.1]; rfl)
          clear b6 hown6 hgrow6
          go_wp2_with fail
          go_roundw
          case rel => exact ⟨rfl, k + 1, fs ++ [(bb, t)], R', by omega, by go_num, Lib.hid ⟨HL6.out, HNXT.out⟩, HO6, HR6, FX6, HG6, HSZ6⟩
          case measure => simp [intOf]; omega
      · have hkci : ¬ (k : Int) < (c0 : Int) := by omega
        have ekc : c0 - k = 0 := by omega
        have HYES := Lib.hid (show listP most partP R0 = some (fs, Rk) by rw [HL.out.2, ekc]; simp [manyP, addP])
        clear ekc
        go_wp2_with fail
        go_ret2
        exact ⟨.inr ⟨fs, Rk, _, HYES.out, rfl, HO.out.base (by omega), HS.out⟩, HG.out⟩
set_option maxRecDepth 100000 in
set_option maxHeartbeats 4000000 in
/-- list at parts (100). -/
theorem listparts_law {W : World} {B : Nat} {R : List Int} (h : RdS W B R) (most : Nat) (hm : most ≤ 1000000) :
    Calls Tryz.prog 67 #[.pointer (some ⟨B, 0, none⟩), .int .i64 (most : Int), .func (.func 68) #[] #[]] W (GetR W B (listP most partP R) (fun x w' v => PartsO w' W.heap.size x v)) := by
  have hmf : ∀ (fn : Fn) (first cap : Array Value) (w : World), (Instr.makeFunc fn first cap).run Tryz.prog w = .ok (.func fn first cap) w := fun _ _ _ _ => rfl
  have hlt := h.lt
  have HR := Lib.hid h
  clear h
  go_enter Tryz.func67, Tryz.ntmps67
  go_upto_region 1 with (fail)
  obtain ⟨W1, hW1⟩ : ∃ W1, W.alloc (.cells #[.func (.func 68) #[] #[]] 120) = W1 := ⟨_, rfl⟩
  have hb1 : Below W.heap.size W W1 := by rw [← hW1]; exact bl1 _ _
  have hx1 : W1.cell? ⟨W.heap.size, 0, none⟩ = some (.func (.func 68) #[] #[]) := by rw [← hW1, cell_new]; rfl
  have hsz : W1.heap.size = W.heap.size + 1 := by rw [← hW1]; simp
  try rw [hW1]
  clear hW1
  have HT := Lib.hid (takeparts_law (HR.out.below hb1) hx1 (by omega) most hm)
  have HB1 := Lib.hid hb1
  clear hb1 hx1
  go_wp2_with fail
  refine HT.out.mono ?_
  rintro r w2 ⟨⟨e1, ⟨e, he, rfl⟩ | rfl⟩ | ⟨xs, R2, v, e1, rfl, hv, r2⟩, g2⟩
  · have HX := Lib.hid e1
    have G := Lib.hid (oth_trans (oth_below B HB1.out) g2)
    have HE := Lib.hid he.ne.2.2
    clear e1 g2 he
    go_wp2_with fail
    refine (must_parts_no _ e HE.out _).mono ?_
    rintro r w' ⟨rfl, rfl⟩
    go_wp2_with fail
    first | exact ⟨rfl, .inl ⟨HX.out, rfl⟩, G.out⟩ | exact ⟨.inl ⟨HX.out, rfl⟩, G.out⟩
  · have HX := Lib.hid e1
    have G := Lib.hid (oth_trans (oth_below B HB1.out) g2)
    clear e1 g2
    go_wp2_with fail
    first | exact ⟨rfl, .inl ⟨HX.out, rfl⟩, G.out⟩ | exact ⟨.inl ⟨HX.out, rfl⟩, G.out⟩
  · have HX := Lib.hid e1
    have G := Lib.hid (oth_trans (oth_below B HB1.out) g2)
    have HV := Lib.hid (hv.base HB1.out.size)
    have HS := Lib.hid r2
    clear e1 g2 hv r2
    go_wp2_with fail
    refine (must_parts_ok _ _).mono ?_
    rintro r w' ⟨rfl, rfl⟩
    go_wp2_with fail
    go_ret
    exact ⟨.inr ⟨_, _, _, HX.out, rfl, HV.out, HS.out⟩, G.out⟩
end Go.Proofs.YtglkndoghnblcaaGreatDoor
namespace Go.Proofs.YtglkndoghnblcaaGreatDoor
open Go.ChangeShapes Go.WideShapes Go.ChangeAt Go.RowKit
set_option linter.unusedVariables false
set_option linter.unusedSimpArgs false
/-- A manifest that is read: generation, name, epoch, floor, logs. -/
structure Mn where
  g : Nat
  nm : List Int
  e : Nat
  f : Nat
  logs : List Pt2
def bindP {α β : Type} (o : Option (α × List Int)) (f : α → List Int → Option β) : Option β := match o with
  | some (x, r) => f x r
  | none => none
theorem bindP_some {α β : Type} {o : Option (α × List Int)} {f : α → List Int → Option β} {x : α} {r : List Int} (h : o = some (x, r)) : bindP o f = f x r := by rw [h]; rfl
theorem bindP_none {α β : Type} {o : Option (α × List Int)} {f : α → List Int → Option β} (h : o = none) : bindP o f = none := by rw [h]; rfl
def manP (L : List Int) : Option (Mn × List Int) :=
  bindP (upP 2147483647 L) fun g r1 => bindP (bytesP 24 r1) fun nm r2 => bindP (upP 16777215 r2) fun e r3 => bindP (upP 16777215 r3) fun f r4 => bindP (listP 32 partP r4) fun xs r5 => some (⟨g, nm, e, f, xs⟩, r5)
def MnO (w : World) (base : Nat) (x : Mn) (v : Value) : Prop := ∃ a c, v = .agg #[.int .i64 (x.g : Int), .string (strOfNums x.nm), .int .i64 (x.e : Int), .int .i64 (x.f : Int), .slice a x.logs.length c] ∧ PartsO w base x.logs (.slice a x.logs.length c)
set_option maxRecDepth 100000 in
set_option maxHeartbeats 4000000 in
/-- ReadManifest$1 (97). -/
theorem manone_law {W : World} {B : Nat} {R : List Int} (h : RdS W B R) :
    Calls Tryz.prog 64 #[.pointer (some ⟨B, 0, none⟩)] W (GetR W B (manP R) (fun x w' v => MnO w' W.heap.size x v)) := by
  have hlt := h.lt
  have HR := Lib.hid h
  clear h
  go_enter Tryz.func64, Tryz.ntmps64
  go_upto_region 1 with (fail)
  obtain ⟨W1, hW1⟩ : ∃ W1, W.alloc (.cells #[.int .i64 0, .string { data := #[] }, .int .i64 0, .int .i64 0, .slice none 0 0] 39) = W1 := ⟨_, rfl⟩
  have hb1 : Below W.heap.size W W1 := by rw [← hW1]; exact bl1 _ _
  have bx : BoxC W1 W.heap.size #[.int .i64 0, .string { data := #[] }, .int .i64 0, .int .i64 0, .slice none 0 0] 39 := by rw [← hW1]; exact BoxC.new W _ 39
  have hsz : W1.heap.size = W.heap.size + 1 := by rw [← hW1]; simp
  try rw [hW1]
  clear hW1
  obtain ⟨N0, hN0⟩ : ∃ N, W.heap.size = N := ⟨_, rfl⟩
  have C1 := Lib.hid (upto_law (HR.out.below hb1) 2147483647 (by decide))
  have HB1 := Lib.hid hb1
  have HN0 := Lib.hid hN0
  rw [hN0] at hsz hlt bx ⊢
  have BX := Lib.hid bx
  clear hb1 bx hN0
  go_wp2_with fail
  refine C1.out.mono ?_
  rintro r w2 ⟨⟨e1, rfl⟩ | ⟨g, R2, v, e1, rfl, rfl, r2⟩, g2⟩
  · have HX := Lib.hid (show manP R = none from bindP_none e1)
    have G := Lib.hid (oth_trans (oth_below B HB1.out) g2)
    clear e1 g2
    go_wp2_with fail
    first | exact ⟨rfl, .inl ⟨HX.out, rfl⟩, G.out⟩ | exact ⟨.inl ⟨HX.out, rfl⟩, G.out⟩
  have E1 := Lib.hid (show manP R = _ from bindP_some e1)
  have G2 := Lib.hid g2
  have C2 := Lib.hid (name_law r2)
  clear e1 g2 r2 C1
  go_wp2_with fail
  refine C2.out.mono ?_
  rintro r w3 ⟨⟨e2, rfl⟩ | ⟨nm, R3, v, e2, rfl, rfl, r3⟩, g3⟩
  · have HX := Lib.hid (E1.out.trans (bindP_none e2))
    have G := Lib.hid (oth_trans (oth_below B HB1.out) (oth_trans G2.out g3))
    clear e2 g3
    go_wp2_with fail
    first | exact ⟨rfl, .inl ⟨HX.out, rfl⟩, G.out⟩ | exact ⟨.inl ⟨HX.out, rfl⟩, G.out⟩
  have E2 := Lib.hid (E1.out.trans (bindP_some e2))
  have G3 := Lib.hid (oth_trans G2.out g3)
  have C3 := Lib.hid (upto_law r3 16777215 (by decide))
  obtain ⟨st, hst⟩ : ∃ st, strOfNums nm = st := ⟨_, rfl⟩
  have HST := Lib.hid hst
  rw [hst]
  clear e2 g3 r3 C2 hst E1 G2
  go_wp2_with fail
  refine C3.out.mono ?_
  rintro r w4 ⟨⟨e3, rfl⟩ | ⟨e, R4, v, e3, rfl, rfl, r4⟩, g4⟩
  · have HX := Lib.hid (E2.out.trans (bindP_none e3))
    have G := Lib.hid (oth_trans (oth_below B HB1.out) (oth_trans G3.out g4))
    clear e3 g4
    go_wp2_with fail
    first | exact ⟨rfl, .inl ⟨HX.out, rfl⟩, G.out⟩ | exact ⟨.inl ⟨HX.out, rfl⟩, G.out⟩
  have E3 := Lib.hid (E2.out.trans (bindP_some e3))
  have G4 := Lib.hid (oth_trans G3.out g4)
  have C4 := Lib.hid (upto_law r4 16777215 (by decide))
  clear e3 g4 r4 C3 E2 G3
  go_wp2_with fail
  refine C4.out.mono ?_
  rintro r w5 ⟨⟨e4, rfl⟩ | ⟨f, R5, v, e4, rfl, rfl, r5⟩, g5⟩
  · have HX := Lib.hid (E3.out.trans (bindP_none e4))
    have G := Lib.hid (oth_trans (oth_below B HB1.out) (oth_trans G4.out g5))
    clear e4 g5
    go_wp2_with fail
    first | exact ⟨rfl, .inl ⟨HX.out, rfl⟩, G.out⟩ | exact ⟨.inl ⟨HX.out, rfl⟩, G.out⟩
  have E4 := Lib.hid (E3.out.trans (bindP_some e4))
  have G5 := Lib.hid (oth_trans G4.out g5)
  have C5 := Lib.hid (listparts_law r5 32 (by decide))
  have hs5 : N0 + 1 ≤ w5.heap.size := by rw [← hsz]; exact G5.out.size
  clear e4 g5 r5 C4 E3 G4
  go_wp2_with fail
  refine C5.out.mono ?_
  rintro r w6 ⟨⟨e5, rfl⟩ | ⟨xs, R6, v, e5, rfl, hv, r6⟩, g6⟩
  · have HX := Lib.hid (E4.out.trans (bindP_none e5))
    have G := Lib.hid (oth_trans (oth_below B HB1.out) (oth_trans G5.out g6))
    clear e5 g6
    go_wp2_with fail
    first | exact ⟨rfl, .inl ⟨HX.out, rfl⟩, G.out⟩ | exact ⟨.inl ⟨HX.out, rfl⟩, G.out⟩
  have HX := Lib.hid (E4.out.trans (bindP_some e5))
  have G6 := Lib.hid (oth_trans (oth_below B HB1.out) (oth_trans G5.out g6))
  obtain ⟨a, c, rfl⟩ : ∃ a c, v = .slice a xs.length c := own_form hv
  have HV := Lib.hid (hv.base hs5)
  have R6' := Lib.hid r6
  have X6 := Lib.hid (BX.out.gr (oth_trans G5.out g6) (by omega))
  obtain ⟨xl, hxl⟩ : ∃ xl, xs.length = xl := ⟨_, rfl⟩
  have HXL := Lib.hid hxl
  rw [hxl] at HV ⊢
  clear e5 g6 hv r6 hxl BX C5 E4
  have x0 := X6.out.cell 0
  have x1 := X6.out.cell 1
  have x2 := X6.out.cell 2
  have x3 := X6.out.cell 3
  have x4 := X6.out.cell 4
  have f0 := X6.out.frozen 0
  have f1 := X6.out.frozen 1
  have f2 := X6.out.frozen 2
  have f3 := X6.out.frozen 3
  have f4 := X6.out.frozen 4
  simp only [List.getElem?_toArray, List.getElem?_cons_zero, List.getElem?_cons_succ] at x0 x1 x2 x3 x4
  have HX9 := Lib.hid (((((X6.out.put 0 (.int .i64 (g : Int))).put 1 (.string st)).put 2 (.int .i64 (e : Int))).put 3 (.int .i64 (f : Int))).put 4 (.slice a xl c))
  have H9 := Lib.hid (show w6.grownBy (((((w6.setCell ⟨N0, 0, none⟩ (.int .i64 (g : Int))).setCell ⟨N0, 1, none⟩ (.string st)).setCell ⟨N0, 2, none⟩ (.int .i64 (e : Int))).setCell ⟨N0, 3, none⟩ (.int .i64 (f : Int))).setCell ⟨N0, 4, none⟩ (.slice a xl c)) (some N0) from oth_trans (oth_set _ _ _ _) (oth_trans (oth_set _ _ _ _) (oth_trans (oth_set _ _ _ _) (oth_trans (oth_set _ _ _ _) (oth_set _ _ _ _)))))
  have HB9 := Lib.hid ((((((Below.refl N0 w6).setCell (p := ⟨N0, 0, none⟩) (Nat.le_refl _) (.int .i64 (g : Int))).setCell (p := ⟨N0, 1, none⟩) (Nat.le_refl _) (.string st)).setCell (p := ⟨N0, 2, none⟩) (Nat.le_refl _) (.int .i64 (e : Int))).setCell (p := ⟨N0, 3, none⟩) (Nat.le_refl _) (.int .i64 (f : Int))).setCell (p := ⟨N0, 4, none⟩) (Nat.le_refl _) (.slice a xl c))
  go_wp2_with fail
  clear x0 x1 x2 x3 x4 f0 f1 f2 f3 f4
  generalize (((((w6.setCell ⟨N0, 0, none⟩ (.int .i64 (g : Int))).setCell ⟨N0, 1, none⟩ (.string st)).setCell ⟨N0, 2, none⟩ (.int .i64 (e : Int))).setCell ⟨N0, 3, none⟩ (.int .i64 (f : Int))).setCell ⟨N0, 4, none⟩ (.slice a xl c)) = W9 at *
  refine bodyPost_ret (v := .agg #[.int .i64 (g : Int), .string st, .int .i64 (e : Int), .int .i64 (f : Int), .slice a xl c]) ?_ rfl ⟨.inr ⟨_, _, _, HX.out, rfl, ⟨a, c, by simp only [HXL.out, HST.out], ?_⟩, R6'.out.below1 (HB9.out.mono (by omega))⟩, grown_below G6.out (by rw [HN0.out]; exact HB9.out)⟩
  · have x0 := HX9.out.cell 0
    have x1 := HX9.out.cell 1
    have x2 := HX9.out.cell 2
    have x3 := HX9.out.cell 3
    have x4 := HX9.out.cell 4
    simp at x0 x1 x2 x3 x4
    simp [results, Tryz.results64, go_sem, x0, x1, x2, x3, x4]
  · rw [HN0.out]
    simp only
    rw [HXL.out]
    exact (HV.out.oth (by omega) H9.out).base (by omega)
end Go.Proofs.YtglkndoghnblcaaGreatDoor
namespace Go.Proofs.YtglkndoghnblcaaGreatDoor
open Go.ChangeShapes Go.WideShapes Go.ChangeAt Go.RowKit
set_option linter.unusedVariables false
set_option linter.unusedSimpArgs false
/-- May a file have that name? -/
def okC (c : UInt8) : Bool := decide (33 ≤ c.toNat ∧ c.toNat ≤ 126)
def mayB (s : ByteArray) : Bool := inB (s.size : Int) 1 24 && s.data.toList.all okC
def okN (s : ByteArray) (k : Nat) : Bool := inB (s.size : Int) 1 24 && (s.data.toList.take k).all okC
theorem okN_next (s : ByteArray) (k : Nat) (h : k < s.size) : okN s (k + 1) = (okN s k && okC s[k]) := by
  unfold okN
  rw [show s.data.toList.take (k + 1) = s.data.toList.take k ++ [s[k]] from by rw [List.take_succ_eq_append_getElem (by simpa using h)]; rfl]
  simp [Bool.and_assoc]
theorem okN_all (s : ByteArray) : okN s s.size = mayB s := by
  unfold okN mayB
  rw [List.take_of_length_le (by simp)]
set_option maxRecDepth 100000 in
set_option maxHeartbeats 4000000 in
/-- MayName (142). -/
theorem mayname_law (s : ByteArray) (hs : s.size ≤ maxLen) (w : World) : Calls Tryz.prog 11 #[.string s] w fun e w' => e = .returned (.bool (mayB s)) ∧ w = w' := by
  unfold maxLen at hs
  have HW := Lib.hid (fun W => within_law (s.size : Int) 1 24 W)
  obtain ⟨b0, hb0⟩ : ∃ b, inB (s.size : Int) 1 24 = b := ⟨_, rfl⟩
  have HB0 := Lib.hid (show okN s 0 = b0 by unfold okN; rw [hb0]; simp)
  rw [hb0] at HW
  clear hb0
  go_enter Tryz.func11, Tryz.ntmps11
  go_wp2_with fail
  refine (HW.out _).mono ?_; rintro r w' ⟨rfl, rfl⟩
  go_wp2_with fail
  go_loop [3, 4, 10] (fun b i j => ∃ k : Nat, k ≤ s.size ∧ b = .bool (okN s k) ∧ j = .int .i64 (k : Int)) (fun _ _ j => s.size - (intOf j).toNat)
  case atStart => exact ⟨0, Nat.zero_le _, by rw [HB0.out], rfl⟩
  case round =>
    obtain ⟨k, hk, rfl, rfl⟩ := hrel
    obtain ⟨ok, hok⟩ : ∃ b, okN s k = b := ⟨_, rfl⟩
    have HOK := Lib.hid hok
    rw [hok]
    clear hok HB0
    by_cases hlt : k < s.size
    · have HS := Lib.hid (okN_next s k hlt)
      have d1 : (k : Int) < (s.size : Int) := by omega
      cases ok with
      | false =>
        go_wp2_with fail
        go_round
        case rel => exact ⟨k + 1, by omega, by rw [HS.out, HOK.out]; rfl, by go_num⟩
        case measure => simp [intOf]; omega
      | true =>
        by_cases hc1 : s[k].toNat < 33
        · have HC := Lib.hid (show okC s[k] = false from decide_eq_false (by omega))
          go_wp2_with fail
          go_round
          case rel => exact ⟨k + 1, by omega, by rw [HS.out, HOK.out, HC.out]; rfl, by go_num⟩
          case measure => simp [intOf]; omega
        · have hc3 : 33 ≤ s[k].toNat := by omega
          by_cases hc2 : s[k].toNat ≤ 126
          · have HC := Lib.hid (show okC s[k] = true from decide_eq_true ⟨hc3, hc2⟩)
            clear hc1
            go_wp2_with fail
            go_round
            case rel => exact ⟨k + 1, by omega, by rw [HS.out, HOK.out, HC.out]; exact congrArg Value.bool (decide_eq_true (by omega)), by go_num⟩
            case measure => simp [intOf]; omega
          · have hc4 : 126 < s[k].toNat := by omega
            have HC := Lib.hid (show okC s[k] = false from decide_eq_false (by omega))
            clear hc1 hc2
            go_wp2_with fail
            go_round
            case rel => exact ⟨k + 1, by omega, by rw [HS.out, HOK.out, HC.out]; exact congrArg Value.bool (decide_eq_false (by omega)), by go_num⟩
            case measure => simp [intOf]; omega
    · obtain rfl : k = s.size := by omega
      have d1 : ¬ (s.size : Int) < (s.size : Int) := by omega
      have HT := Lib.hid (show mayB s = ok by rw [← okN_all, HOK.out])
      go_wp2_with fail
      go_ret
      exact ⟨by rw [HT.out]; rfl, rfl⟩
end Go.Proofs.YtglkndoghnblcaaGreatDoor
namespace Go.Proofs.YtglkndoghnblcaaGreatDoor
open Go.ChangeShapes Go.WideShapes Go.ChangeAt Go.RowKit
set_option linter.unusedVariables false
set_option linter.unusedSimpArgs false
def eqS (s t : ByteArray) : Bool := s.toList == t.toList
/-- A part of a log: its file's name, how far. -/
abbrev LpV := ByteArray × Int
/-- Parts in a row. -/
def LpsR (W : World) (a : Option Addr) (xs : List LpV) : Prop := ∀ (k : Nat) (x : LpV), xs[k]? = some x → ∃ b off, a = some ⟨b, off, none⟩ ∧ W.cell? ⟨b, off + k * 2, none⟩ = some (.string x.1) ∧ W.cell? ⟨b, off + k * 2 + 1, none⟩ = some (.int .i64 x.2)
theorem LpsR.below {W W' : World} {a : Option Addr} {xs : List LpV} (h : LpsR W a xs) (hb : Below W.heap.size W W') : LpsR W' a xs := fun k x hx => by
  obtain ⟨b, off, e, c0, c1⟩ := h k x hx
  exact ⟨b, off, e, (hb.cell (cell_lt c0)).trans c0, (hb.cell (cell_lt c1)).trans c1⟩
theorem LpsR.take {W : World} {a : Option Addr} {xs : List LpV} (h : LpsR W a xs) (k : Nat) : LpsR W a (xs.take k) := fun j x hx => by
  rw [List.getElem?_take] at hx
  split at hx
  · exact h j x hx
  · cases hx
set_option maxRecDepth 100000 in
set_option maxHeartbeats 4000000 in
/-- mayManifest's closure (143). -/
theorem same_law (s nm : ByteArray) (t : Int) (Bx : Nat) (w : World) (hx : w.cell? ⟨Bx, 0, none⟩ = some (.string nm)) :
    Calls Tryz.prog 88 #[.agg #[.string s, .int .i64 t], .pointer (some ⟨Bx, 0, none⟩)] w fun r w' => r = .returned (.bool (eqS s nm)) ∧ Below w.heap.size w w' := by
  have hxl := cell_lt hx
  go_enter Tryz.func88, Tryz.ntmps88
  go_upto_region 1 with (fail)
  obtain ⟨W1, hW1⟩ : ∃ W1, w.alloc (.cells #[.string s, .int .i64 t] 42) = W1 := ⟨_, rfl⟩
  have hb1 : Below w.heap.size w W1 := by rw [← hW1]; exact bl1 _ _
  have bx : BoxC W1 w.heap.size #[.string s, .int .i64 t] 42 := by rw [← hW1]; exact BoxC.new w _ 42
  have hx1 := (hb1.cell hxl).trans hx
  try rw [hW1]
  clear hW1
  have z0 := bx.cell 0
  simp only [List.getElem?_toArray, List.getElem?_cons_zero] at z0
  clear hx bx
  go_wp2_with fail
  go_ret
  exact ⟨rfl, hb1⟩
def sameAt (nm : ByteArray) (xs : List LpV) : Nat → Bool
  | 0 => false
  | k + 1 => sameAt nm xs k || (match xs[k]? with | some x => eqS x.1 nm | none => false)
theorem sameAt_any (nm : ByteArray) (xs : List LpV) : ∀ k, sameAt nm xs k = (xs.take k).any fun x => eqS x.1 nm
  | 0 => by simp [sameAt]
  | k + 1 => by
    show (sameAt nm xs k || _) = _
    rw [sameAt_any nm xs k, List.take_add_one]
    cases h : xs[k]? with
    | none => simp
    | some x => simp
set_option maxRecDepth 100000 in
set_option maxHeartbeats 4000000 in
/-- IndexFunc (172): there is one, or none. -/
theorem index_law (nm : ByteArray) (a : Option Addr) (xs : List LpV) (n cap Bx : Nat) (hn : xs.length = n) (hn2 : n ≤ 1000000) (w : World) (hR : LpsR w a xs) (hx : w.cell? ⟨Bx, 0, none⟩ = some (.string nm)) :
    Calls Tryz.prog 132 #[.slice a n cap, .func (.func 88) #[] #[.pointer (some ⟨Bx, 0, none⟩)]] w fun r w' => (∃ i : Int, r = .returned (.int .i64 i) ∧ decide (0 ≤ i) = xs.any fun x => eqS x.1 nm) ∧ Below w.heap.size w w' := by
  have HR := Lib.hid hR
  have HN := Lib.hid hn
  have HX := Lib.hid hx
  have hni : (n : Int) ≤ 1000000 := by omega
  clear hR hn hx
  go_enter Tryz.func132, Tryz.ntmps132
  go_wp2_with fail
  go_loopw [5, 8] (fun i j wr => ∃ k : Nat, k ≤ n ∧ j = .int .i64 (k : Int) ∧ Hid (sameAt nm xs k = false) ∧ Hid (Below w.heap.size w wr)) (fun _ j _ => n - (intOf j).toNat)
  case atStart => exact ⟨0, Nat.zero_le _, rfl, Lib.hid rfl, Lib.hid (Below.refl _ _)⟩
  case round =>
    obtain ⟨k, hk, rfl, HS, HB⟩ := hrel
    by_cases hlt : k < n
    · have d1 : (k : Int) < (n : Int) := by omega
      obtain ⟨x, hx⟩ : ∃ x, xs[k]? = some x := ⟨_, List.getElem?_eq_getElem (by rw [HN.out]; exact hlt)⟩
      obtain ⟨bb, off, rfl, c0, c1⟩ := (HR.out.below HB.out) k x hx
      have HXK := Lib.hid hx
      have HC := Lib.hid (same_law x.1 nm x.2 Bx wr ((HB.out.cell (cell_lt HX.out)).trans HX.out))
      obtain ⟨sm, hsm⟩ : ∃ b, (eqS x.1 nm) = b := ⟨_, rfl⟩
      rw [hsm] at HC
      have HSM := Lib.hid (show sameAt nm xs (k + 1) = sm by show (sameAt nm xs k || _) = _; rw [HS.out, HXK.out]; simpa using hsm)
      clear hsm hx
      go_wp2_with fail
      refine HC.out.mono ?_; rintro r w3 ⟨rfl, b3⟩
      have HB3 := Lib.hid (step_below HB.out b3)
      clear b3 c0 c1
      cases sm with
      | true =>
        go_wp2_with fail
        go_ret
        refine ⟨⟨_, rfl, ?_⟩, HB3.out⟩
        have h1 : (xs.take (k + 1)).any (fun x => eqS x.1 nm) = true := by rw [← sameAt_any]; exact HSM.out
        have h2 : xs.any (fun x => eqS x.1 nm) = true := by
          rw [List.any_eq_true] at h1 ⊢
          obtain ⟨y, hy, h⟩ := h1
          exact ⟨y, List.mem_of_mem_take hy, h⟩
        rw [h2]
        simp
      | false =>
        go_wp2_with fail
        go_roundw
        case rel => exact ⟨k + 1, by omega, by go_num, HSM, HB3⟩
        case measure => simp [intOf]; omega
    · obtain rfl : k = n := by omega
      have HF := Lib.hid (show (xs.any fun x => eqS x.1 nm) = false by have := HS.out; rw [sameAt_any, List.take_of_length_le (by rw [HN.out]; omega)] at this; exact this)
      go_wp2_with fail
      go_ret
      exact ⟨⟨_, rfl, by rw [HF.out]; simp⟩, HB.out⟩
set_option maxRecDepth 100000 in
set_option maxHeartbeats 4000000 in
/-- ContainsFunc (144). -/
theorem contains_law (nm : ByteArray) (a : Option Addr) (xs : List LpV) (n cap Bx : Nat) (hn : xs.length = n) (hn2 : n ≤ 1000000) (w : World) (hR : LpsR w a xs) (hx : w.cell? ⟨Bx, 0, none⟩ = some (.string nm)) :
    Calls Tryz.prog 89 #[.slice a n cap, .func (.func 88) #[] #[.pointer (some ⟨Bx, 0, none⟩)]] w fun r w' => r = .returned (.bool (xs.any fun x => eqS x.1 nm)) ∧ Below w.heap.size w w' := by
  have HI := Lib.hid (index_law nm a xs n cap Bx hn hn2 w hR hx)
  clear hn hR hx
  go_enter Tryz.func89, Tryz.ntmps89
  go_wp2_with fail
  refine HI.out.mono ?_; rintro r w3 ⟨⟨i, rfl, hi⟩, b3⟩
  have HH := Lib.hid (And.intro hi b3)
  clear hi b3
  go_wp2_with fail
  go_ret
  exact ⟨by rw [← HH.out.1]; rfl, HH.out.2⟩
end Go.Proofs.YtglkndoghnblcaaGreatDoor
namespace Go.Proofs.YtglkndoghnblcaaGreatDoor
open Go.ChangeShapes Go.WideShapes Go.ChangeAt Go.RowKit
set_option linter.unusedVariables false
set_option linter.unusedSimpArgs false
def eqE (s : ByteArray) : Bool := s.toList.isEmpty
def mnHead (g e f : Int) : Bool := inB g 1 2147483647 && (inB e 0 16777215 && inB f e 16777215)
def mnName (e : Int) (nm : ByteArray) : Bool := (eqE nm && (e == 0)) || mayB nm
def okM (g e f : Int) (nm : ByteArray) (xs : List LpV) : Nat → Bool
  | 0 => mnHead g e f && (mnName e nm && decide ((xs.length : Int) ≤ 32))
  | k + 1 => match xs[k]? with
    | some x => okM g e f nm xs k && (mayB x.1 && (inB x.2 0 f && !((xs.take k).any fun y => eqS y.1 x.1)))
    | none => okM g e f nm xs k
theorem okM_next {g e f : Int} {nm : ByteArray} {xs : List LpV} {k : Nat} {x : LpV} (h : xs[k]? = some x) : okM g e f nm xs (k + 1) = (okM g e f nm xs k && (mayB x.1 && (inB x.2 0 f && !((xs.take k).any fun y => eqS y.1 x.1)))) := by
  show (match xs[k]? with | some x => _ | none => _) = _
  rw [h]
/-- May it be a manifest? -/
def manB (g e f : Int) (nm : ByteArray) (xs : List LpV) : Bool := okM g e f nm xs xs.length
theorem hi_run70 (W : World) (a : Option Addr) (n c i : Nat) (hi : i ≤ n) (hnc : n ≤ c) : (Instr.slice 37 (.slice a n c) .none (some (.int .i64 (i : Int))) .none).run Tryz.prog W = .ok (.slice a i c) W := by
  obtain ⟨i0, hi0, hz0, hz1, hz2⟩ := info_parts info76
  have hel : Tryz.prog.elem 37 = 42 := by simp [Program.elem, Tryz.underlying37]
  rw [run_slice_h (P := Tryz.prog) (w := W) 37 a n c (by rw [hel]; exact Tryz.underlying37) .i64 i (by omega) (by omega)]
  have hs : ((sizeOf (Tryz.prog.elem 37)).run Tryz.prog W) = .ok 2 W := by rw [hel]; simp [sizeOf, typeInfo, hi0, hz1]
  rw [hs]
  cases a <;> simp [sliced, Result.andThen, Addr.add]
set_option maxRecDepth 100000 in
set_option maxHeartbeats 4000000 in
/-- mayManifest (92). -/
theorem mayman_law (g e f : Int) (nm : ByteArray) (a : Option Addr) (xs : List LpV) (n cap : Nat) (hs : nm.size ≤ maxLen) (hsx : ∀ x ∈ xs, x.1.size ≤ maxLen) (hn : xs.length = n) (hn2 : n ≤ 1000000) (hnc : n ≤ cap) (w : World) (hR : LpsR w a xs) :
    Calls Tryz.prog 40 #[.agg #[.int .i64 g, .string nm, .int .i64 e, .int .i64 f, .slice a n cap]] w fun r w' => r = .returned (.bool (manB g e f nm xs)) ∧ Below w.heap.size w w' := by
  have hmf : ∀ (fn : Fn) (first cap : Array Value) (w : World), (Instr.makeFunc fn first cap).run Tryz.prog w = .ok (.func fn first cap) w := fun _ _ _ _ => rfl
  have HR := Lib.hid hR
  have HNC := Lib.hid hnc
  have HN := Lib.hid (And.intro hn hsx)
  have H1 := Lib.hid (fun W => within_law g 1 2147483647 W)
  have H2 := Lib.hid (fun W => within_law e 0 16777215 W)
  have H3 := Lib.hid (fun W => within_law f e 16777215 W)
  have H4 := Lib.hid (fun W => mayname_law nm hs W)
  obtain ⟨b1, hb1⟩ : ∃ b, inB g 1 2147483647 = b := ⟨_, rfl⟩
  obtain ⟨b2, hb2⟩ : ∃ b, inB e 0 16777215 = b := ⟨_, rfl⟩
  obtain ⟨b3, hb3⟩ : ∃ b, inB f e 16777215 = b := ⟨_, rfl⟩
  have HHD := Lib.hid (show mnHead g e f = (b1 && (b2 && b3)) by unfold mnHead; rw [hb1, hb2, hb3])
  rw [hb1] at H1
  rw [hb2] at H2
  rw [hb3] at H3
  clear hb1 hb2 hb3 hn hsx hR
  go_enter Tryz.func40, Tryz.ntmps40
  go_upto_region 1 with (fail)
  obtain ⟨W0, hW0⟩ : ∃ W0, w.alloc (.cells #[.int .i64 g, .string nm, .int .i64 e, .int .i64 f, .slice a n cap] 39) = W0 := ⟨_, rfl⟩
  have hb0 : Below w.heap.size w W0 := by rw [← hW0]; exact bl1 _ _
  have bx : BoxC W0 w.heap.size #[.int .i64 g, .string nm, .int .i64 e, .int .i64 f, .slice a n cap] 39 := by rw [← hW0]; exact BoxC.new w _ 39
  try rw [hW0]
  clear hW0
  have z0 := bx.cell 0
  have z1 := bx.cell 1
  have z2 := bx.cell 2
  have z3 := bx.cell 3
  have z4 := bx.cell 4
  simp only [List.getElem?_toArray, List.getElem?_cons_zero, List.getElem?_cons_succ] at z0 z1 z2 z3 z4
  go_cut [3] (fun v wx => v = .bool (b1 && (b2 && b3)) ∧ W0 = wx)
  case first =>
    cases b1 with
    | false =>
      go_wp2_with fail
      refine (H1.out _).mono ?_; rintro r w1 ⟨rfl, rfl⟩
      go_wp2_with fail
      go_meet
      exact ⟨by simp, rfl⟩
    | true =>
      go_wp2_with fail
      refine (H1.out _).mono ?_; rintro r w1 ⟨rfl, rfl⟩
      go_wp2_with fail
      refine (H2.out _).mono ?_; rintro r w1 ⟨rfl, rfl⟩
      cases b2 with
      | false =>
        go_wp2_with fail
        go_meet
        exact ⟨by simp, rfl⟩
      | true =>
        go_wp2_with fail
        refine (H3.out _).mono ?_; rintro r w1 ⟨rfl, rfl⟩
        go_wp2_with fail
        go_meet
        exact ⟨by simp, rfl⟩
  case rest =>
    obtain ⟨rfl, rfl⟩ := hcut
    rw [← HHD.out]
    obtain ⟨hd, hhd⟩ : ∃ b, mnHead g e f = b := ⟨_, rfl⟩
    have HHD2 := Lib.hid hhd
    rw [hhd]
    clear hhd HHD H1 H2 H3
    obtain ⟨be, hbe⟩ : ∃ b, nm.toList.isEmpty = b := ⟨_, rfl⟩
    obtain ⟨bz, hbz⟩ : ∃ b, (e == 0) = b := ⟨_, rfl⟩
    obtain ⟨bm, hbm⟩ : ∃ b, mayB nm = b := ⟨_, rfl⟩
    obtain ⟨bl, hbl⟩ : ∃ b, decide ((n : Int) ≤ 32) = b := ⟨_, rfl⟩
    rw [hbm] at H4
    have HK0 := Lib.hid (show okM g e f nm xs 0 = (hd && (((be && bz) || bm) && bl)) by
      show (mnHead g e f && (mnName e nm && decide ((xs.length : Int) ≤ 32))) = _
      unfold mnName eqE
      rw [HHD2.out, hbe, hbz, hbm, HN.out.1, hbl])
    go_upto_region 2 with (fail)
    go_cut [3] (fun v wx => v = .bool (hd && (((be && bz) || bm) && bl)) ∧ W0 = wx)
    case first =>
      clear hbm HK0
      cases hd with
      | false =>
        go_wp2_with fail
        go_meet
        exact ⟨by simp, rfl⟩
      | true =>
        cases be with
        | true =>
          cases bz with
          | true =>
            go_wp2_with fail
            go_meet
            exact ⟨by simp [hbl], rfl⟩
          | false =>
            go_wp2_with fail
            refine (H4.out _).mono ?_; rintro r w1 ⟨rfl, rfl⟩
            cases bm with
            | false =>
              go_wp2_with fail
              go_meet
              exact ⟨by simp, rfl⟩
            | true =>
              go_wp2_with fail
              go_meet
              exact ⟨by simp [hbl], rfl⟩
        | false =>
          go_wp2_with fail
          refine (H4.out _).mono ?_; rintro r w1 ⟨rfl, rfl⟩
          cases bm with
          | false =>
            go_wp2_with fail
            go_meet
            exact ⟨by simp, rfl⟩
          | true =>
            go_wp2_with fail
            go_meet
            exact ⟨by simp [hbl], rfl⟩
    case rest =>
      obtain ⟨rfl, rfl⟩ := hcut
      rw [← HK0.out]
      clear HK0 H4 hbe hbz hbm hbl HHD2
      have HBX := Lib.hid bx
      have HB0 := Lib.hid hb0
      clear z0 z1 z2 z3 hb0 bx
      go_wp2_with fail
      go_loopw [3, 4, 5, 6, 47] (fun v i p q j wr => ∃ k : Nat, k ≤ n ∧ v = .bool (okM g e f nm xs k) ∧ j = .int .i64 (k : Int) ∧ Hid (Below W0.heap.size W0 wr)) (fun _ _ _ _ j _ => n - (intOf j).toNat)
      case atStart => exact ⟨0, Nat.zero_le _, rfl, rfl, Lib.hid (Below.refl _ _)⟩
      case round =>
        obtain ⟨k, hk, rfl, rfl, HBW⟩ := hrel
        obtain ⟨okv, hokv⟩ : ∃ b, okM g e f nm xs k = b := ⟨_, rfl⟩
        have HOKV := Lib.hid hokv
        rw [hokv]
        clear hokv z4
        have HWR := Lib.hid (step_below HB0.out HBW.out)
        by_cases hlt : k < n
        · have d1 : (k : Int) < (n : Int) := by omega
          obtain ⟨x, hx⟩ : ∃ x, xs[k]? = some x := ⟨_, List.getElem?_eq_getElem (by rw [HN.out.1]; exact hlt)⟩
          have HX := Lib.hid hx
          have HNX := Lib.hid (okM_next (g := g) (e := e) (f := f) (nm := nm) hx)
          have HMN := Lib.hid (fun W => mayname_law x.1 (HN.out.2 x (List.mem_of_getElem? hx)) W)
          have HWI := Lib.hid (fun W => within_law x.2 0 f W)
          obtain ⟨bb, off, rfl, c0, c1⟩ := (HR.out.below HWR.out) k x hx
          clear hx
          go_upto_region 6 with (fail)
          obtain ⟨W1, hW1⟩ : ∃ W1, wr.alloc (.cells #[.string x.1, .int .i64 x.2] 42) = W1 := ⟨_, rfl⟩
          have hb1 : Below wr.heap.size wr W1 := by rw [← hW1]; exact bl1 _ _
          have bw : BoxC W1 wr.heap.size #[.string x.1, .int .i64 x.2] 42 := by rw [← hW1]; exact BoxC.new wr _ 42
          try rw [hW1]
          clear hW1 c0 c1
          have y0 := bw.cell 0
          have y1 := bw.cell 1
          simp only [List.getElem?_toArray, List.getElem?_cons_zero, List.getElem?_cons_succ] at y0 y1
          have HB1 := Lib.hid (step_below HBW.out hb1)
          have bx1 := HBX.out.below HB1.out
          have z3 := bx1.cell 3
          have z4 := bx1.cell 4
          simp only [List.getElem?_toArray, List.getElem?_cons_zero, List.getElem?_cons_succ] at z3 z4
          have hsl := hi_run70 W1 (some ⟨bb, off, none⟩) n cap k (by omega) HNC.out
          have HCN := Lib.hid (contains_law x.1 (some ⟨bb, off, none⟩) (xs.take k) k cap wr.heap.size (by rw [List.length_take, HN.out.1]; omega) (by omega) W1 ((HR.out.below (step_below HWR.out hb1)).take k) y0)
          obtain ⟨m1, hm1⟩ : ∃ b, mayB x.1 = b := ⟨_, rfl⟩
          obtain ⟨m2, hm2⟩ : ∃ b, inB x.2 0 f = b := ⟨_, rfl⟩
          obtain ⟨m3, hm3⟩ : ∃ b, ((xs.take k).any fun y => eqS y.1 x.1) = b := ⟨_, rfl⟩
          rw [hm1] at HMN HNX
          rw [hm2] at HWI HNX
          rw [hm3] at HCN HNX
          rw [HOKV.out] at HNX
          clear hm1 hm2 hm3 bw bx1 hb1 HBW
          cases okv with
          | false =>
            go_wp2_with fail
            go_roundw
            case rel => exact ⟨k + 1, by omega, by rw [HNX.out]; rfl, by go_num, HB1⟩
            case measure => simp [intOf]; omega
          | true =>
            go_wp2_with fail
            refine (HMN.out _).mono ?_; rintro r w3 ⟨rfl, rfl⟩
            cases m1 with
            | false =>
              go_wp2_with fail
              go_roundw
              case rel => exact ⟨k + 1, by omega, by rw [HNX.out]; rfl, by go_num, HB1⟩
              case measure => simp [intOf]; omega
            | true =>
              go_wp2_with fail
              refine (HWI.out _).mono ?_; rintro r w3 ⟨rfl, rfl⟩
              cases m2 with
              | false =>
                go_wp2_with fail
                go_roundw
                case rel => exact ⟨k + 1, by omega, by rw [HNX.out]; rfl, by go_num, HB1⟩
                case measure => simp [intOf]; omega
              | true =>
                go_wp2_with fail
                refine HCN.out.mono ?_; rintro r w3 ⟨rfl, b3⟩
                have HB3 := Lib.hid (step_below HB1.out b3)
                clear b3
                go_wp2_with fail
                go_roundw
                case rel => exact ⟨k + 1, by omega, by rw [HNX.out]; simp, by go_num, HB3⟩
                case measure => simp [intOf]; omega
        · obtain rfl : k = n := by omega
          have HT := Lib.hid (show manB g e f nm xs = okv by unfold manB; rw [HN.out.1, HOKV.out])
          go_wp2_with fail
          go_ret
          exact ⟨by rw [HT.out]; rfl, HWR.out⟩
end Go.Proofs.YtglkndoghnblcaaGreatDoor
