/- 'LogFrames' returns true whatever its arguments, which read afterwards as before; no conditions. -/
import Derived.Test.YtglkndoghnblcaaGreatOqa
import Derived.Test.YtglkndoghnblcaaGreatRows
import Derived.WalkKit
import Derived.WalkMore
import Derived.ProofKit
import Derived.Outline
import Derived.WalkLawsBesides
import Derived.WalkSpells
import Derived.Lib.Hide
import Derived.Below
import Derived.WalkSmall
import Derived.BigRegion
import Derived.Laws.Rows
import Derived.Laws.BytesArg
import Derived.Laws.Concat
import Derived.Laws.OwnMore
import Derived.Deep.QuietTactic
import Derived.BigQuiet
import Derived.Deep.RegionHeld3
import Derived.StillTailTactics
import Derived.Test.YtglkndoghnblcaaGreatOqd
import Derived.Sort.QuietIn
import Derived.OrdersIn
import Derived.Test.YtglkndoghnblcaaGreatOqe
import Derived.Test.YtglkndoghnblcaaGreatOqh
import Derived.Shelf.Abstract
import Derived.OwnWalkIn
import Derived.Sort.CutIn
import Derived.Test.YtglkndoghnblcaaGreatOqi
import Derived.Test.YtglkndoghnblcaaGreatOql
import Derived.OpenShut
import Derived.ShutString
import Derived.ChangeOld
namespace Go.Proofs.YtglkndoghnblcaaGreat
open Go.ChangeShapes Go.WideShapes Go.ChangeAt Go.RowKit
set_option linter.unusedVariables false
set_option linter.unusedSimpArgs false

theorem str_append (a b : List Int) : strOfNums (a ++ b) = strOfNums a ++ strOfNums b := by
  apply ByteArray.ext
  simp [strOfNums, ByteArray.data_append]
/-- A row of numbers that came in. -/
def IsRow (k : IntKind) (w : World) (a : Option Addr) (len cap : Nat) (zs : List Int) : Prop :=
  (a = none ∧ len = 0 ∧ cap = 0 ∧ zs = []) ∨
  ∃ x, a = some x ∧ len ≤ cap ∧ cap ≤ maxLen ∧ zs.length = cap ∧ (∀ i, i < zs.length → w.cell? (x.add i) = some (.int k (zs.getD i 0))) ∧ ∀ n ∈ zs, (Lit.int k n).wf = true
theorem IsRow.ls {K : IntKind} {w : World} {a : Option Addr} {len cap : Nat} {zs : List Int} (h : IsRow K w a len cap zs) : Ls K w a cap (zs.take len) ∧ (zs.take len).length = len := by
  rcases h with ⟨rfl, rfl, rfl, rfl⟩ | ⟨y, rfl, hlc, _, hz, hcell, _⟩
  · exact ⟨Ls.nul _ _, rfl⟩
  · have hl : (zs.take len).length = len := by rw [List.length_take]; omega
    refine ⟨⟨fun k hk => ?_, fun e => (by cases e), by omega⟩, hl⟩
    have hk' : k < len ∧ k < zs.length := by simp at hk; omega
    obtain ⟨b, off, spot⟩ := y
    have hc0 := hcell 0 (by omega)
    have hspot : spot = none := by simpa [Addr.add] using World.cell?_spot hc0
    subst hspot
    have hc := hcell k hk'.2
    rw [addr_add] at hc
    exact ⟨b, off, rfl, by rw [hc]; simp [List.getD, List.getElem?_take, hk'.1]⟩
theorem IsRow.byt {w : World} {a : Option Addr} {len cap : Nat} {zs : List Int} (h : IsRow .u8 w a len cap zs) : Byt (zs.take len) := by
  rcases h with ⟨_, rfl, _, rfl⟩ | ⟨y, rfl, hlc, _, hz, hcell, hw⟩
  · intro x hx; simp at hx
  · intro x hx
    have := hw x (List.mem_of_mem_take hx)
    simpa [Lit.wf, IntKind.min, IntKind.max, IntKind.signed, IntKind.bits] using this
end Go.Proofs.YtglkndoghnblcaaGreat
namespace Go.Proofs.YtglkndoghnblcaaGreat
open Go.ChangeShapes Go.WideShapes Go.ChangeAt Go.RowKit
set_option linter.unusedVariables false
set_option linter.unusedSimpArgs false
section
variable {n : Nat} {P : Program} {ops : Array Oper} {Q : Exit → Act → World → Prop}
/-- No operation lays something by for later. -/
def nodB (l : List Oper) : Bool := l.all fun o => match o.op with | .defer _ => false | _ => true
theorem nod_of {l : List Oper} (h : nodB l = true) : ∀ o ∈ l, ∀ c, o.op ≠ .defer c := fun o ho c e => by
  have := List.all_eq_true.1 h o ho
  simp only [e] at this
  cases this
theorem rowsIn_w {row : String} {args : Array Value} {w : World} {R : Value → World → Prop} (h : Rows P row args w R) : RowsIn Fence.wide n P row args w R :=
  fun c cs _ => let ⟨v, w', r, s⟩ := h c cs; ⟨v, w', r, stepsIn_wide.2 s⟩
/-- One operation, in a round. -/
theorem one_in {o : Oper} {a : Act} {w : World} {K : Act → World → Prop} {l : Nat} (nd : ∀ c, o.op ≠ .defer c) (h : o.wp P a w K Q) : o.wpIn (Fence.wide.inRound l) n P a w K Q := by
  refine ⟨fun f _ => trivial, ?_⟩
  rw [Fence.inRound_round, Oper.semAt_eq _ _ _ nd]
  unfold Oper.wp at h
  generalize (execOp a.eval o).run P w = r at h ⊢
  cases r with
  | ok x w' =>
    cases x <;> first | exact h | exact ⟨fun e => absurd e (by simp [Fence.wide, Fence.inRound]), CallsIn.inRound l (callsIn_wide.2 h)⟩ | exact ⟨fun e => absurd e (by simp [Fence.wide, Fence.inRound]), rowsIn_w h⟩ | exact h.elim
  | halt x w' =>
    cases x <;> first | exact h | exact h.elim
theorem up_in {a : Act} {w : World} {i l : Nat} {K : Act → World → Prop} (hno : ¬ LetsOut Q) (nd : ∀ o ∈ ops.toList, ∀ c, o.op ≠ .defer c) (h : wpOp P ops Q i K a w) : wpOpIn (Fence.wide.inRound l) n P ops Q i K a w := by
  unfold wpOp at h
  unfold wpOpIn
  cases e : ops[i]? with
  | none => simpa [e] using h
  | some o =>
    simp only [e] at h ⊢
    have hm : o ∈ ops.toList := by rw [Array.mem_toList_iff]; exact Array.mem_of_getElem? e
    by_cases hw : Region.wanted o (yielded ops a.tmps) = true
    · rw [if_pos hw] at h ⊢
      rcases h with h | h
      · exact one_in (nd o hm) h
      · exact absurd h.2 hno
    · rw [if_neg hw] at h ⊢; exact ⟨fun f _ => trivial, h⟩
theorem any_in {S : World → Prop} {md : Region.Mode} {l : Nat} (hno : ¬ LetsOut Q) (nd : ∀ o ∈ ops.toList, ∀ c, o.op ≠ .defer c) : ∀ (fuel : Nat) (listed : Array Bool) (a : Act) (w : World), wpAnyH P md ops Q S fuel listed a w → wpAnyIn (Fence.wide.inRound l) n P md ops Q fuel listed a w
  | 0, _, _, _, h => h
  | fuel + 1, _, _, _, h => ⟨h.1, fun i hi => wpOpIn_mono (fun a' w' h' => any_in hno nd fuel _ a' w' h'.2) (up_in hno nd (h.2 i hi))⟩
/-- A drawn region in a round of a range over a function: as 'wp_region_held_drew'. -/
theorem wp_region_round {S : World → Prop} {id l : Nat} {a : Act} {w : World} (hm : P.follows .mixedOrders = true) (hno : ¬ LetsOut Q) (nd : nodB ops.toList = true) (hS : S w.drew)
    (h : S w.drew → wpAnyH P .any ops Q S ops.size (Array.replicate ops.size false) a w.drew) : (Code.region id ops true).wpIn (Fence.wide.inRound l) n P Q a w :=
  wpIn_region_any hm (any_in hno (nod_of nd) _ _ _ _ (h hS))
end
end Go.Proofs.YtglkndoghnblcaaGreat
namespace Go.Proofs.YtglkndoghnblcaaGreat
open Go.ChangeShapes Go.WideShapes Go.ChangeAt Go.RowKit Go.Shelf
set_option linter.unusedVariables false
set_option linter.unusedSimpArgs false
set_option maxRecDepth 100000 in
theorem hnf107 (f : Fn) (c1 c2 : Array Value) (w : World) : (binOp .eql 107 (.func f c1 c2) .nilFunc).run Tryz.prog w = .ok (.bool false) w := by
  first | rfl | simp [binOp, run_underlying Tryz.underlying107] | simp [binOp, Op.equal, run_underlying Tryz.underlying107, go_sem]
/-- The world while 'once' goes over the payloads. -/
structure OnI (w : World) (B4 B5 B6 B7 : Nat) (v2 : Value) (most : Int) (k : Nat) (W : World) : Prop where
  bel : Below w.heap.size w W
  want : BoxC W B4 #[v2] 27
  mo : BoxC W B5 #[.int .i64 most] 3
  res : BoxC W B6 #[.bool false] 4
  num : BoxC W B7 #[.int .i64 (k : Int)] 3
structure OnX (w : World) (B6 : Nat) (W : World) : Prop where
  bel : Below w.heap.size w W
  res : BoxC W B6 #[.bool true] 4
theorem OnI.own {w A B : World} {B4 B5 B6 B7 k : Nat} {v2 : Value} {most : Int} {row : Option Nat} (h : OnI w B4 B5 B6 B7 v2 most k A) (hb : Below w.heap.size w B) (hg : A.grownBy B row) (hr : ∀ r, row = some r → ∃ o : Obj, A.heap[r]? = some o ∧ o.isCells = false) : OnI w B4 B5 B6 B7 v2 most k B :=
  ⟨hb, h.want.own hg hr, h.mo.own hg hr, h.res.own hg hr, h.num.own hg hr⟩
theorem OnI.below {w A B : World} {B4 B5 B6 B7 k : Nat} {v2 : Value} {most : Int} (h : OnI w B4 B5 B6 B7 v2 most k A) (b : Below A.heap.size A B) : OnI w B4 B5 B6 B7 v2 most k B :=
  ⟨step_below h.bel b, h.want.below b, h.mo.below b, h.res.below b, h.num.below b⟩
theorem OnX.own {w A B : World} {B6 : Nat} {row : Option Nat} (h : OnX w B6 A) (hb : Below w.heap.size w B) (hg : A.grownBy B row) (hr : ∀ r, row = some r → ∃ o : Obj, A.heap[r]? = some o ∧ o.isCells = false) : OnX w B6 B :=
  ⟨hb, h.res.own hg hr⟩
attribute [local go_sem] Oper.semAt_some
set_option maxRecDepth 100000 in
set_option maxHeartbeats 4000000 in
/-- once (13), where the payloads are those of the bytes. -/
theorem once_law (a : Option Addr) (L : List Int) (n cap : Nat) (hn : L.length = n) (hn2 : n ≤ 1000000) (hB : Byt L) (a2 : Option Addr) (R : List P1) (N c2 : Nat) (most : Int) (hR : R.map P1.bs = framesL L) (hN : R.length = N) (w : World) (hL : Ls .u8 w a cap L) (hR2 : RdR w a2 R) :
    Calls Tryz.prog 13 #[.slice a n cap, .slice a2 N c2, .int .i64 most] w fun r w' => r = .returned (.bool true) ∧ Below w.heap.size w w' := by
  have HN := Lib.hid (And.intro hn (And.intro hB hL))
  have hwl : wholeL L ≤ 1000000 := Nat.le_trans (whole_le n L (Nat.le_of_eq hn)) (by omega)
  obtain ⟨FS, hFS⟩ : ∃ FS, framesL L = FS := ⟨_, rfl⟩
  have hFN : FS.length = N := by rw [← hFS, ← hR, ← hN]; simp
  have hN2 : N ≤ 1000000 := by
    have h1 := sumF_ge FS FS.length (Nat.le_refl _)
    have h2 : sumF FS FS.length ≤ wholeL L := by rw [← hFS]; exact sumF_le (framesL L) _
    omega
  have HFS := Lib.hid hFS
  have HR := Lib.hid (And.intro hR hR2)
  have HFN := Lib.hid hFN
  have hnf := hnf107
  clear hn hB hL hFS hwl hR hR2 hN hFN
  refine (callsIn_wide (n := 6)).1 ?_
  refine callsIn_of_wp_marks Tryz.func13 rfl trivial ?_ rfl
  simp only [Tryz.ntmps13, List.size_toArray, List.length_cons, List.length_nil, Nat.reduceAdd, Nat.reduceSub, Array.replicate_succ, Array.replicate_zero, List.push_toArray, List.append_toArray, List.nil_append, List.cons_append]
  refine wpIn_wide.2 ?_
  go_wp2_with fail
  refine (frames_law a n cap _).mono ?_
  rintro e w' ⟨rfl, rfl⟩
  go_wp2_with fail
  refine (wpIn_wide (n := 6)).1 ?_
  rename_i KT hKT
  obtain ⟨W5, hW5⟩ : ∃ W5, (((((w.alloc (.cells #[.slice a2 N c2] 27)).alloc (.cells #[.int .i64 most] 3)).alloc (.cells #[.bool false] 4)).alloc (.cells #[.int .i64 0] 3)).alloc (.cells #[.slice a n cap] 22)) = W5 := ⟨_, rfl⟩
  have hb5 : Below w.heap.size w W5 := by rw [← hW5]; exact (((((Below.refl _ w).alloc (Nat.le_refl _) _).alloc (by simp) _).alloc (by simp; omega) _).alloc (by simp; omega) _).alloc (by simp; omega) _
  have b4 : BoxC W5 w.heap.size #[.slice a2 N c2] 27 := by rw [← hW5]; exact ((((BoxC.new w _ 27).alloc _).alloc _).alloc _).alloc _
  have b5 : BoxC W5 (w.heap.size + 1) #[.int .i64 most] 3 := by
    rw [← hW5]; have := (BoxC.new (w.alloc (.cells #[.slice a2 N c2] 27)) #[.int .i64 most] 3); refine BoxC.alloc (BoxC.alloc (BoxC.alloc ?_ _) _) _; simpa using this
  have b6 : BoxC W5 (w.heap.size + 1 + 1) #[.bool false] 4 := by
    rw [← hW5]; have := (BoxC.new ((w.alloc (.cells #[.slice a2 N c2] 27)).alloc (.cells #[.int .i64 most] 3)) #[.bool false] 4); refine BoxC.alloc (BoxC.alloc ?_ _) _; simpa using this
  have b7 : BoxC W5 (w.heap.size + 1 + 1 + 1) #[.int .i64 ((0 : Nat) : Int)] 3 := by
    rw [← hW5]; have := (BoxC.new (((w.alloc (.cells #[.slice a2 N c2] 27)).alloc (.cells #[.int .i64 most] 3)).alloc (.cells #[.bool false] 4)) #[.int .i64 0] 3); refine BoxC.alloc ?_ _; simpa using this
  have bF : BoxC W5 (w.heap.size + 1 + 1 + 1 + 1) #[.slice a n cap] 22 := by
    rw [← hW5]; have := (BoxC.new ((((w.alloc (.cells #[.slice a2 N c2] 27)).alloc (.cells #[.int .i64 most] 3)).alloc (.cells #[.bool false] 4)).alloc (.cells #[.int .i64 0] 3)) #[.slice a n cap] 22); simpa using this
  have hs5 : W5.heap.size = w.heap.size + 5 := by rw [← hW5]; simp
  rw [hW5]
  clear hW5
  obtain ⟨B4, hB4⟩ : ∃ B, w.heap.size = B := ⟨_, rfl⟩
  obtain ⟨B5, hB5⟩ : ∃ B, B4 + 1 = B := ⟨_, rfl⟩
  obtain ⟨B6, hB6⟩ : ∃ B, B5 + 1 = B := ⟨_, rfl⟩
  obtain ⟨B7, hB7⟩ : ∃ B, B6 + 1 = B := ⟨_, rfl⟩
  obtain ⟨BF, hBF⟩ : ∃ B, B7 + 1 = B := ⟨_, rfl⟩
  have HO := Lib.hid (show w.heap.size ≤ B4 ∧ w.heap.size ≤ B6 ∧ w.heap.size ≤ B7 ∧ B7 < W5.heap.size from ⟨by omega, by omega, by omega, by omega⟩)
  have n75 : B7 ≠ B5 := by omega
  have n57 : B5 ≠ B7 := by omega
  have n74 : B7 ≠ B4 := by omega
  have n47 : B4 ≠ B7 := by omega
  have n76 : B7 ≠ B6 := by omega
  have n67 : B6 ≠ B7 := by omega
  rw [hB4] at b4 b5 b6 b7 bF ⊢
  rw [hB5] at b5 b6 b7 bF ⊢
  rw [hB6] at b6 b7 bF ⊢
  rw [hB7] at b7 bF ⊢
  rw [hBF] at bF ⊢
  have hsq : SeqX Fence.wide 5 Tryz.prog 113 #[.pointer (some ⟨BF, 0, none⟩)] encF (KpB W5.heap.size) (PxF W5.heap.size FS) FS.length W5 := by
    have := frames_x 5 (by omega) (w := W5) a L n cap HN.out.1 hn2 HN.out.2.1 (HN.out.2.2.below hb5) BF bF
    rw [HFS.out] at this
    exact this
  clear hB5 hB6 hB7 hBF hs5 bF hB4
  obtain ⟨Bs, hBs⟩ : ∃ Bs, W5.heap.size = Bs := ⟨_, rfl⟩
  refine wp_range_x1 rfl (by omega) (gf := 113) (lb := #[.pointer (some ⟨BF, 0, none⟩)]) rfl trivial (enters_of Tryz.func113 (by kernel_rfl) rfl)
    hsq KpB.trans (fun A => KpB.refl _ A) (fun W l o o' h1 h2 h3 h4 => KpB.put W l o o' h1 h2 h3 h4)
    (fun k x W l o o' h1 h2 h3 h4 hp => hp.kp (KpB.put W l o o' h1 h2 h3 h4)) (fun _ => rfl)
    (fun k W => OnI w B4 B5 B6 B7 (.slice a2 N c2) most k W) (fun _ W => OnX w B6 W)
    (fun s A B row hs hg hr => hs.own (hs.bel.grown hg hs.bel.size (fun j e => by have := (hr j e).1; have := hb5.size; omega)) hg (fun r e => (hr r e).2))
    (fun s A B row hs hg hr => hs.own (hs.bel.grown hg hs.bel.size (fun j e => by have := (hr j e).1; have := hb5.size; omega)) hg (fun r e => (hr r e).2))
    ⟨hb5, b4, b5, b6, b7⟩
    ?a1 ?assign ?body ?done ?stop
  case assign =>
    rintro l x W K hK
    dsimp only [encF, P1.v]
    gi_wp2
    exact hK
  case body =>
    rintro l k x W hk hI hpx
    rw [hBs] at hpx HO ⊢
    clear hb5 b4 b5 b6 b7 hsq hBs
    rw [HFN.out] at hk
    obtain ⟨p, hp⟩ : ∃ p, R[k]? = some p := by
      have : R.length = N := by have := congrArg List.length HR.out.1; rw [HFS.out, HFN.out] at this; simpa using this
      exact ⟨_, List.getElem?_eq_getElem (by omega)⟩
    have hpb : p.bs = x.bs := by
      have h1 := hpx.at_
      rw [← HFS.out, ← HR.out.1, List.getElem?_map, hp] at h1
      simpa using h1
    obtain ⟨b, off, rfl, hcell, hls⟩ := HR.out.2 k p hp
    obtain ⟨pa, pc, hpv⟩ : ∃ pa pc, p.v = .slice pa p.bs.length pc := ⟨_, _, rfl⟩
    rw [hpb] at hls hpv
    have hpv2 : pa = p.ad ∧ pc = p.cap := by unfold P1.v at hpv; simp at hpv; exact ⟨hpv.1.symm, hpv.2.2.symm⟩
    rw [← hpv2.1, ← hpv2.2] at hls
    rw [hpv] at hcell
    clear hpv hpv2 hp hpb
    obtain ⟨xb, hxb⟩ : ∃ xb, x.bs = xb := ⟨_, rfl⟩
    obtain ⟨pl, hpl⟩ : ∃ pl, xb.length = pl := ⟨_, rfl⟩
    obtain ⟨xa, hxa⟩ : ∃ xa, x.ad = xa := ⟨_, rfl⟩
    obtain ⟨xc, hxc⟩ : ∃ xc, x.cap = xc := ⟨_, rfl⟩
    have HPL := Lib.hid hpl
    have HX := Lib.hid (fun V (h : Below W.heap.size W V) => hpx.lies.ls.below h)
    have HP := Lib.hid (fun V (h : Below W.heap.size W V) => hls.below (step_below hI.bel h))
    have hc0 := (hI.bel.cell (cell_lt hcell)).trans hcell
    have hw0 := hI.want.cell 0
    have hn0 := hI.num.cell 0
    simp only [List.getElem?_toArray, List.getElem?_cons_zero] at hw0 hn0
    rw [hxb, hpl] at hc0
    rw [hxb] at HP
    rw [hxa, hxb, hxc] at HX
    rw [hxa, hxb, hxc, hpl]
    have FQ := Lib.hid (fun V (h : Below W.heap.size W V) => (⟨(h.cell (cell_lt hn0)).trans hn0, (h.cell (cell_lt hw0)).trans hw0, (h.cell (cell_lt hc0)).trans hc0⟩ : V.cell? ⟨B7, 0, none⟩ = some (.int .i64 (k : Int)) ∧ V.cell? ⟨B4, 0, none⟩ = some (.slice (some ⟨b, off, none⟩) N c2) ∧ V.cell? ⟨b, off + k, none⟩ = some (.slice pa pl pc)))
    have HI := Lib.hid hI
    obtain ⟨k1, hk1⟩ : ∃ i, k + 1 = i := ⟨_, rfl⟩
    have e1 : IntKind.i64.wrap ((k : Int) + 1) = (k1 : Int) := by rw [IntKind.wrap_i64] <;> omega
    have HK1 := Lib.hid hk1
    clear hI hpx hls hcell hc0 hw0 hn0 hxa hxb hxc hpl hk1
    gi_upto_region 7 with (fail)
    rename_i KC hKC
    refine wpIn_mono (Q := Exit.then KC (fun _ _ _ => False)) ?_ (fun e a' w' h => by cases e <;> first | exact h | exact h.elim)
    refine wp_region_round (S := (fun X => Below W.heap.size W X)) (by kernel_rfl) (fun ⟨_, _, h⟩ => h) (by kernel_rfl) ((Below.refl _ _).drew) (fun hHeld => ?_)
    refine tk 0 ?_ rfl (.inl ⟨by rfl, ?_⟩) ?_
    rotate_left
    · intro W hSw; obtain ⟨z0, z1, z2⟩ := FQ.out W hSw; go_simp; try with_reducible rfl
    try simp only [Act.put, List.setIfInBounds_toArray, List.set_cons_zero, List.set_cons_succ]
    refine tk 1 ?_ rfl (.inl ⟨by rfl, ?_⟩) ?_
    rotate_left
    · intro W hSw; obtain ⟨z0, z1, z2⟩ := FQ.out W hSw; go_simp; try with_reducible rfl
    try simp only [Act.put, List.setIfInBounds_toArray, List.set_cons_zero, List.set_cons_succ]
    refine tk 2 ?_ rfl (.inl ⟨by rfl, ?_⟩) ?_
    rotate_left
    · intro W hSw; go_simp; try with_reducible rfl
    try simp only [Act.put, List.setIfInBounds_toArray, List.set_cons_zero, List.set_cons_succ]
    refine tk 3 (.bool false) rfl (.inl ⟨by rfl, ?_⟩) ?_
    · intro W hSw; go_simp; try (first | (simp; done) | (simp; omega) | omega)
    try simp only [Act.put, List.setIfInBounds_toArray, List.set_cons_zero, List.set_cons_succ]
    refine tk 4 (.bool false) rfl (.inl ⟨by rfl, ?_⟩) ?_
    · intro W hSw; go_simp; try rfl
    try simp only [Act.put, List.setIfInBounds_toArray, List.set_cons_zero, List.set_cons_succ]
    refine tk 5 ?_ rfl (.inl ⟨by rfl, ?_⟩) ?_
    rotate_left
    · intro W hSw; go_simp; try with_reducible rfl
    try simp only [Act.put, List.setIfInBounds_toArray, List.set_cons_zero, List.set_cons_succ]
    refine tk 6 ?_ rfl (.inl ⟨by rfl, ?_⟩) ?_
    rotate_left
    · intro W hSw; have hcv := conv_ls W xa pl xc xb HPL.out (HX.out W hSw).rd; go_simp; try with_reducible rfl
    try simp only [Act.put, List.setIfInBounds_toArray, List.set_cons_zero, List.set_cons_succ]
    refine tk 7 ?_ rfl (.inl ⟨by rfl, ?_⟩) ?_
    rotate_left
    · intro W hSw; obtain ⟨z0, z1, z2⟩ := FQ.out W hSw; go_simp; try with_reducible rfl
    try simp only [Act.put, List.setIfInBounds_toArray, List.set_cons_zero, List.set_cons_succ]
    refine tk 8 ?_ rfl (.inl ⟨by rfl, ?_⟩) ?_
    rotate_left
    · intro W hSw; obtain ⟨z0, z1, z2⟩ := FQ.out W hSw; go_simp; try with_reducible rfl
    try simp only [Act.put, List.setIfInBounds_toArray, List.set_cons_zero, List.set_cons_succ]
    refine tk 9 ?_ rfl (.inl ⟨by rfl, ?_⟩) ?_
    rotate_left
    · intro W hSw; go_simp; try with_reducible rfl
    try simp only [Act.put, List.setIfInBounds_toArray, List.set_cons_zero, List.set_cons_succ]
    refine tk 10 ?_ rfl (.inl ⟨by rfl, ?_⟩) ?_
    rotate_left
    · intro W hSw; obtain ⟨z0, z1, z2⟩ := FQ.out W hSw; go_simp; try with_reducible rfl
    try simp only [Act.put, List.setIfInBounds_toArray, List.set_cons_zero, List.set_cons_succ]
    refine tk 11 ?_ rfl (.inl ⟨by rfl, ?_⟩) ?_
    rotate_left
    · intro W hSw; have hcv := conv_ls W pa pl pc xb HPL.out (HP.out W hSw).rd; go_simp; try with_reducible rfl
    try simp only [Act.put, List.setIfInBounds_toArray, List.set_cons_zero, List.set_cons_succ]
    refine tk 12 (.bool false) rfl (.inl ⟨by rfl, ?_⟩) ?_
    · intro W hSw; go_simp; try simp
    try simp only [Act.put, List.setIfInBounds_toArray, List.set_cons_zero, List.set_cons_succ]
    refine tk 13 (.bool false) rfl (.inl ⟨by rfl, ?_⟩) ?_
    · intro W hSw; go_simp; try rfl
    try simp only [Act.put, List.setIfInBounds_toArray, List.set_cons_zero, List.set_cons_succ]
    refine wpAnyH_done (by kernel_rfl) ?_ _
    skip
    refine hKC _ _ ?_
    have HID := Lib.hid (HI.out.below hHeld)
    have HBD := Lib.hid hHeld
    have HDK := Lib.hid (KK.below hHeld : KK Bs W W.drew)
    clear hKC hHeld
    have hn0 := HI.out.num.cell 0
    have hm0 := HI.out.mo.cell 0
    have hf0 := HI.out.num.frozen 0
    have hf6 := HI.out.res.frozen 0
    have hr0 := HI.out.res.cell 0
    simp only [List.getElem?_toArray, List.getElem?_cons_zero] at hn0 hm0 hr0
    have HKN := Lib.hid (HDK.out.trans (KK.box (base := Bs) (i := 0) (.int .i64 (k1 : Int)) HID.out.num (by decide)))
    have HBN := Lib.hid (HID.out.bel.setCell (p := ⟨B7, 0, none⟩) HO.out.2.2.1 (.int .i64 (k1 : Int)))
    have N1 := Lib.hid (HID.out.num.put 0 (.int .i64 (k1 : Int)))
    have W1 := Lib.hid (BoxC.oth (i := 0) (v := .int .i64 (k1 : Int)) n74 HID.out.want)
    have M1 := Lib.hid (BoxC.oth (i := 0) (v := .int .i64 (k1 : Int)) n75 HID.out.mo)
    have R1 := Lib.hid (BoxC.oth (i := 0) (v := .int .i64 (k1 : Int)) n76 HID.out.res)
    by_cases q : (k1 : Int) = most
    · have q1 : ((k1 : Int) == most) = true := by simpa using q
      have Q := Lib.hid q
      clear q
      gi_wp2_with fail
      have kf := HKN.out.trans (KK.box (base := Bs) (i := 0) (.bool true) R1.out (by decide))
      exact ⟨kf.ko.from Bs, HBN.out.setCell (p := ⟨B6, 0, none⟩) HO.out.2.1 _, R1.out.put 0 (.bool true)⟩
    · have q1 : ((k1 : Int) == most) = false := by simpa using q
      have Q := Lib.hid q
      clear q
      gi_wp2_with fail
      refine ⟨HKN.out.ko.from Bs, HKN.out.kb, ⟨HBN.out, W1.out, M1.out, R1.out, ?_⟩⟩
      rw [HK1.out]
      exact N1.out
  case done =>
    rintro D W hD hI hK
    rw [HFN.out] at hI
    show KT _ _
    refine hKT _ _ ?_
    have HKD := Lib.hid hK
    have HBS := Lib.hid (show w.heap.size ≤ D by have := hb5.size; omega)
    have HI := Lib.hid hI
    have z0 := hI.num.cell 0
    have z1 := hI.want.cell 0
    have z2 := hI.res.cell 0
    have f2 := hI.res.frozen 0
    simp only [List.getElem?_toArray, List.getElem?_cons_zero] at z0 z1 z2
    have HKX := Lib.hid (KK.box (base := Bs) (i := 0) (.bool true) hI.res (by decide))
    have HDB := Lib.hid (show Bs ≤ D by omega)
    clear hKT hsq b4 b5 b6 b7 hb5 hK hI hBs
    go_wp2_with fail
    have hKd : (W.setCell ⟨B6, 0, none⟩ (.bool true)).heap[D]? = some (.deferred (some [])) := (HKX.out.ko.from Bs).same D _ HDB.out HKD.out rfl
    refine ⟨by simp, .inl ⟨_, _, rfl, run_takeDeferred hKd, ?_⟩⟩
    have X8 := (HI.out.res.put 0 (.bool true)).own (grownBy_putObj' _ D (.deferred none)) (fun r e => by cases e; exact ⟨_, hKd, rfl⟩)
    have x0 := X8.cell 0
    simp at x0
    refine ⟨.bool true, by simp [results, Tryz.results13, go_sem, x0], rfl, ?_⟩
    exact (HI.out.bel.setCell (p := ⟨B6, 0, none⟩) HO.out.2.1 (.bool true)).trans (belowK_b (w := w) (Nat.le_refl _) _ D _ (.deferred none) HBS.out hKd rfl rfl)
  case stop =>
    rintro D k W hD hk hI hK
    have HBS := Lib.hid (show w.heap.size ≤ D by have := hb5.size; omega)
    refine wpIn_wide.2 ?_
    go_wp2_with fail
    refine ⟨by simp, .inl ⟨_, _, rfl, run_takeDeferred hK, ?_⟩⟩
    have X8 := hI.res.own (grownBy_putObj' _ D (.deferred none)) (fun r e => by cases e; exact ⟨_, hK, rfl⟩)
    have x0 := X8.cell 0
    simp at x0
    refine ⟨.bool true, by simp [results, Tryz.results13, go_sem, x0], rfl, ?_⟩
    exact hI.bel.trans (belowK_b (w := w) (Nat.le_refl _) _ D _ (.deferred none) HBS.out hK rfl rfl)
end Go.Proofs.YtglkndoghnblcaaGreat
namespace Go.Proofs.YtglkndoghnblcaaGreat
open Go.ChangeShapes Go.WideShapes Go.ChangeAt Go.RowKit
set_option linter.unusedVariables false
set_option linter.unusedSimpArgs false
theorem FrmR.get {w w' : World} {P : List Int} {e : Ending} (h : FrmR w P e w') : ∃ a fl c er, e = .returned (.tuple #[.slice a fl c, .int .i64 er]) ∧ Below w.heap.size w w' ∧
    ((P.length = 0 → fl = 0 ∧ er = 2) ∧ (4096 < P.length → fl = 0 ∧ er = 3) ∧ (1 ≤ P.length → P.length ≤ 4096 → er = 0 ∧ (frameL P).length = fl ∧ Ls .u8 w' a c (frameL P))) := by
  rcases h with ⟨h, rfl, rfl⟩ | ⟨h, rfl, rfl⟩ | ⟨h1, h2, a', c', rfl, _, hl, hb⟩
  · exact ⟨_, _, _, _, rfl, Below.refl _ _, fun _ => ⟨rfl, rfl⟩, fun _ => by omega, fun _ => by omega⟩
  · exact ⟨_, _, _, _, rfl, Below.refl _ _, fun _ => by omega, fun _ => ⟨rfl, rfl⟩, fun _ => by omega⟩
  · exact ⟨_, _, _, _, rfl, hb, fun _ => by omega, fun _ => by omega, fun _ _ => ⟨rfl, by rw [frameL_len], hl⟩⟩
set_option maxRecDepth 100000 in
set_option maxHeartbeats 4000000 in
/-- LogFrames (3). -/
theorem logframes_law (a1 : Option Addr) (P : List Int) (n1 c1 : Nat) (hn1 : P.length = n1) (hB1 : Byt P) (a2 : Option Addr) (B : List Int) (n2 c2 : Nat) (hn2 : B.length = n2) (hB2 : Byt B) (lv : Int) (w : World) (hL1 : Ls .u8 w a1 c1 P) (hL2 : Ls .u8 w a2 c2 B) :
    Calls Tryz.prog 3 #[.slice a1 n1 c1, .slice a2 n2 c2, .int .i64 lv] w fun r w' => r = .returned (.bool true) ∧ Below w.heap.size w w' := by
  have HN1 := Lib.hid (And.intro hn1 (And.intro hB1 hL1))
  have HN2 := Lib.hid (And.intro hn2 (And.intro hB2 hL2))
  clear hn1 hB1 hL1 hn2 hB2 hL2
  by_cases g1 : (9000 : Int) < (n1 : Int)
  · go_enter Tryz.func3, Tryz.ntmps3
    go_wp2_with fail
    refine (known_law _).mono ?_; rintro r w9 ⟨rfl, hb9⟩
    have HB9 := Lib.hid hb9
    clear hb9
    go_wp2_with fail
    go_ret
    exact ⟨rfl, HB9.out⟩
  by_cases g2 : (30000 : Int) < (n2 : Int)
  · go_enter Tryz.func3, Tryz.ntmps3
    go_wp2_with fail
    refine (known_law _).mono ?_; rintro r w9 ⟨rfl, hb9⟩
    have HB9 := Lib.hid hb9
    clear hb9
    go_wp2_with fail
    go_ret
    exact ⟨rfl, HB9.out⟩
  go_enter Tryz.func3, Tryz.ntmps3
  go_wp2_with fail
  refine (frame_law a1 P n1 c1 HN1.out.1 (by omega) HN1.out.2.1 _ HN1.out.2.2).mono ?_
  rintro r w1 hr
  obtain ⟨a0, fl, c0, er, rfl, hb1, hfr⟩ := hr.get
  have HB1 := Lib.hid hb1
  have HFR := Lib.hid hfr
  have HL2 := Lib.hid (HN2.out.2.2.below hb1)
  clear hr hb1 hfr
  go_wp2_with (at_builtin; refine append_ls eltB rfl (.const (.slice none 0 0)) (.tmp 27) rfl w1.heap.size _ 0 [] rfl (World.ownsRow_nil _ _ _ _) _ _ n2 B HN2.out.1 rfl HL2.out (by omega) (Nat.le_refl _) ?_; intro v2 w2 hown2 hgrow2; rw [Nat.zero_add, List.nil_append] at hown2; have HO2 := Lib.hid hown2; have HB2 := Lib.hid ((Below.refl w1.heap.size w1).grown hgrow2 (Nat.le_refl _) (fun j hj => by cases hj)); have hs2 := HB2.out.size; clear hown2 hgrow2; go_wp2_with (at_builtin; refine append_ls eltB rfl (.tmp 28) (.tmp 29) rfl w1.heap.size _ n2 (iv .u8 B) rfl (HO2.out.alloc _) _ _ 1 [119] rfl rfl (ls_new .u8 w2 [119] #[.int .u8 119] 5 (0, 0) rfl 1 rfl) (by omega) (by rw [World.size_alloc]; omega) ?_; intro v3 w3 hown3 hgrow3; rw [← iv_append] at hown3; obtain ⟨a3, c3, e3, hl3, _⟩ := own_ls (show w3.ownsRow w1.heap.size 5 1 v3 (n2 + 1) (iv .u8 (B ++ [119])) from hown3) (by rw [List.length_append, HN2.out.1]; rfl); subst e3; have HL3 := Lib.hid hl3; have HB3 := Lib.hid (step_below HB1.out ((HB2.out.alloc hs2 (.cells #[.int .u8 119] 5)).grown hgrow3 (by rw [World.size_alloc]; omega) (fun j hj => (HO2.out.lt j hj).1))); have HB13 := Lib.hid (((HB2.out.alloc hs2 (.cells #[.int .u8 119] 5)).grown hgrow3 (by rw [World.size_alloc]; omega) (fun j hj => (HO2.out.lt j hj).1))); clear hown3 hgrow3 hl3))
  clear HO2 HB2 hs2 HL2
  refine (rframes_law a2 B n2 c2 HN2.out.1 (by omega) HN2.out.2.1 w3 (HN2.out.2.2.below HB3.out)).mono ?_
  rintro r w4 ⟨v, rfl, hrow, hb4⟩
  obtain ⟨ra, rc, R, rfl, hRb, hRd⟩ := hrow.rdr
  obtain ⟨sa, sc, hsl, hsL⟩ := Ls.hi eltB HL3.out (n2 + 1) n2 (by rw [List.length_append, HN2.out.1]; rfl) (by omega)
  have htk : (B ++ [119]).take n2 = B := by rw [← HN2.out.1]; exact List.take_left
  rw [htk] at hsL
  clear htk
  have HSL := Lib.hid (hsL.below hb4)
  have HL4 := Lib.hid (HL3.out.below hb4)
  have HB4 := Lib.hid (step_below HB3.out hb4)
  have HB14 := Lib.hid (step_below HB13.out hb4)
  have HR4 := Lib.hid (And.intro hRb hRd)
  obtain ⟨nf, hnf⟩ : ∃ nf, (framesL B).length = nf := ⟨_, rfl⟩
  have HNF := Lib.hid (show R.length = nf by rw [← hnf, ← hRb]; simp)
  have HWH := Lib.hid (fun W (b : Below w4.heap.size w4 W) => whole_law sa B n2 sc HN2.out.1 (by omega) HN2.out.2.1 W (HSL.out.below b))
  obtain ⟨wl, hwl⟩ : ∃ wl, wholeL B = wl := ⟨_, rfl⟩
  rw [hwl] at HWH
  rw [hnf, hwl]
  clear hrow hb4 hRb hRd hsL HL3 HB3 HB13 hnf hwl
  go_wp2_with fail
  refine (once_law sa B n2 sc HN2.out.1 (by omega) HN2.out.2.1 ra R nf rc lv HR4.out.1 HNF.out w4 HSL.out HR4.out.2).mono ?_
  rintro r w5 ⟨rfl, hb5⟩
  have HB5 := Lib.hid hb5
  clear hb5
  go_wp2_with fail
  refine (once_law sa B n2 sc HN2.out.1 (by omega) HN2.out.2.1 ra R nf rc 0 HR4.out.1 HNF.out w5 (HSL.out.below HB5.out) (HR4.out.2.below HB5.out)).mono ?_
  rintro r w6 ⟨rfl, hb6⟩
  have HB6 := Lib.hid (step_below HB5.out hb6)
  clear hb6 HB5
  go_wp2_with fail
  refine (HWH.out _ HB6.out).mono ?_
  rintro r WF ⟨rfl, hb7⟩
  have HB7 := Lib.hid (step_below HB6.out hb7)
  have HBF := Lib.hid (step_below HB4.out HB7.out)
  have hcv1 := conv_ls WF a3 (n2 + 1) c3 (B ++ [119]) (by rw [List.length_append, HN2.out.1]; rfl) (HL4.out.below HB7.out).rd
  have hcv2 := conv_ls WF a2 n2 c2 B HN2.out.1 (HN2.out.2.2.below HBF.out).rd
  rw [str_append, show strOfNums [119] = { data := #[119] } by decide] at hcv1
  have hz := strOfNums_size B
  rw [HN2.out.1] at hz
  have hz1 : ¬ (n2 + ({ data := #[119] } : ByteArray).size > 9223372036854775807) := by have : ({ data := #[119] } : ByteArray).size = 1 := rfl; omega
  have hz2 : ¬ (9223372036854775807 < n2 + 1) := by omega
  have HB1F := Lib.hid (step_below HB14.out HB7.out)
  clear hb7 HB6 HWH HSL HL4 HR4 HNF HB4 HB14
  have hfr := HFR.out
  by_cases q0 : n1 = 0
  · obtain ⟨rfl, rfl⟩ := hfr.1 (by rw [HN1.out.1]; exact q0)
    have e0 : ((n1 : Int) == 0) = true := by simp; omega
    have e0' : (n1 == 0) = true := by simp; omega
    clear hfr
    go_wp2_with fail
    refine (num_law 2 _).mono ?_; rintro r w8 ⟨rfl, rfl⟩
    go_wp2_with fail
    refine (known_law _).mono ?_; rintro r w9 ⟨rfl, hb9⟩
    have HB9 := Lib.hid (step_below HBF.out hb9)
    clear hb9
    go_wp2_with fail
    go_ret
    exact ⟨rfl, HB9.out⟩
  by_cases q1 : (4096 : Int) < (n1 : Int)
  · obtain ⟨rfl, rfl⟩ := hfr.2.1 (by rw [HN1.out.1]; omega)
    have e0 : ((n1 : Int) == 0) = false := by simp; omega
    have e0' : (n1 == 0) = false := by simp; omega
    clear hfr
    go_wp2_with fail
    refine (num_law 3 _).mono ?_; rintro r w8 ⟨rfl, rfl⟩
    go_wp2_with fail
    refine (known_law _).mono ?_; rintro r w9 ⟨rfl, hb9⟩
    have HB9 := Lib.hid (step_below HBF.out hb9)
    clear hb9
    go_wp2_with fail
    go_ret
    exact ⟨rfl, HB9.out⟩
  · obtain ⟨rfl, hfl, hla⟩ := hfr.2.2 (by rw [HN1.out.1]; omega) (by rw [HN1.out.1]; omega)
    have e0 : ((n1 : Int) == 0) = false := by simp; omega
    have e0' : (n1 == 0) = false := by simp; omega
    have e5 : (fl == 0) = false := by have := frameL_len P; simp; omega
    have HA := Lib.hid (And.intro hfl (hla.below HB1F.out))
    clear hfr hfl hla
    go_upto_region 13 with (fail)
    rename_i KK hKK
    refine Code.wp_mono (Q := Exit.then KK (fun _ _ _ => False)) (fun e a' w' h => by cases e <;> first | exact h | exact h.elim) ?_
    refine wp_region_held_drew (S := (fun X => Below WF.heap.size WF X)) (by kernel_rfl) ((Below.refl _ _).drew) (fun hHeld => ?_)
    refine tk 0 ?_ rfl (.inl ⟨by rfl, ?_⟩) ?_
    rotate_left
    · intro W hSw; go_simp; try with_reducible rfl
    try simp only [Act.put, List.setIfInBounds_toArray, List.set_cons_zero, List.set_cons_succ]
    refine tk 1 ?_ rfl (.inl ⟨by rfl, ?_⟩) ?_
    rotate_left
    · intro W hSw; have hcv := conv_ls W a0 fl c0 (frameL P) HA.out.1 (HA.out.2.below hSw).rd; go_simp; try with_reducible rfl
    try simp only [Act.put, List.setIfInBounds_toArray, List.set_cons_zero, List.set_cons_succ]
    refine tk 2 ?_ rfl (.inl ⟨by rfl, ?_⟩) ?_
    rotate_left
    · intro W hSw; go_simp; try with_reducible rfl
    try simp only [Act.put, List.setIfInBounds_toArray, List.set_cons_zero, List.set_cons_succ]
    refine wpAnyH_ready (rs := [3]) (by kernel_rfl) (by simp) ?_
    refine AllReadyH.cons (o := { dst := some 96, op := Op.call { callee := Callee.value (Operand.func 16), args := #[Operand.tmp 95], argTypes := #[22] }, type := 22, pos := "law.go:86", after := #[{ on := 2, ground := Ground.data }], guard := none }) rfl (fun K hK => ?_) AllReadyH.nil
    go_simp
    refine (rframe_own a1 P n1 c1 HN1.out.1 (by omega) HN1.out.2.1 _ (HN1.out.2.2.below (step_below HBF.out hHeld))).mono ?_; rintro e9 w3 ⟨a3, c3, rfl, ho3, hl3, hb3⟩
    go_wp2_with fail
    refine hK.out _ _ (step_below hHeld hb3) (fun hHeldn => ?_)
    clear hK K hHeld; have hHeld := hHeldn; clear hHeldn
    have HF3 := Lib.hid hl3.ls.rd
    clear ho3 hl3 hb3
    try simp only [Act.put, List.setIfInBounds_toArray, List.set_cons_zero, List.set_cons_succ]
    refine wpAnyH_ready (rs := [4]) (by kernel_rfl) (by simp) ?_
    refine AllReadyH.cons (o := { dst := some 97, op := Op.convert 22 9 (Operand.tmp 96), type := 9, pos := "law.go:86", after := #[{ on := 3, ground := Ground.data }], guard := none }) rfl (fun K hK => ?_) AllReadyH.nil
    go_simp
    rw [conv_ls _ _ _ _ _ rfl HF3.out]
    refine hK.out _ _ hHeld (fun hHeldn => ?_)
    clear hK K hHeld; have hHeld := hHeldn; clear hHeldn
    try simp only [Act.put, List.setIfInBounds_toArray, List.set_cons_zero, List.set_cons_succ]
    refine tk 5 (.bool true) rfl (.inl ⟨by rfl, ?_⟩) ?_
    · intro W hSw; go_simp; try simp
    try simp only [Act.put, List.setIfInBounds_toArray, List.set_cons_zero, List.set_cons_succ]
    refine tk 6 (.bool true) rfl (.inl ⟨by rfl, ?_⟩) ?_
    · intro W hSw; go_simp; try rfl
    try simp only [Act.put, List.setIfInBounds_toArray, List.set_cons_zero, List.set_cons_succ]
    refine tk 7 ?_ rfl (.inl ⟨by rfl, ?_⟩) ?_
    rotate_left
    · intro W hSw; go_simp; try with_reducible rfl
    try simp only [Act.put, List.setIfInBounds_toArray, List.set_cons_zero, List.set_cons_succ]
    refine wpAnyH_ready (rs := [8]) (by kernel_rfl) (by simp) ?_
    refine AllReadyH.cons (o := { dst := some 101, op := Op.call { callee := Callee.value (Operand.func 15), args := #[Operand.tmp 100], argTypes := #[24] }, type := 3, pos := "law.go:86", after := #[{ on := 7, ground := Ground.data }, { on := 6, ground := Ground.chain }, { on := 6, ground := Ground.guard }], guard := some (6, true) }) rfl (fun K hK => ?_) AllReadyH.nil
    go_simp
    refine (num_law 0 _).mono ?_; rintro e9 w4 ⟨rfl, rfl⟩
    go_wp2_with fail
    refine hK.out _ _ (hHeld) (fun hHeldn => ?_)
    clear hK K hHeld; have hHeld := hHeldn; clear hHeldn
    try simp only [Act.put, List.setIfInBounds_toArray, List.set_cons_zero, List.set_cons_succ]
    refine tk 9 (.bool true) rfl (.inl ⟨by rfl, ?_⟩) ?_
    · intro W hSw; go_simp; try simp
    try simp only [Act.put, List.setIfInBounds_toArray, List.set_cons_zero, List.set_cons_succ]
    refine tk 10 (.bool true) rfl (.inl ⟨by rfl, ?_⟩) ?_
    · intro W hSw; go_simp; try rfl
    try simp only [Act.put, List.setIfInBounds_toArray, List.set_cons_zero, List.set_cons_succ]
    refine tk 11 (.bool true) rfl (.inl ⟨by rfl, ?_⟩) ?_
    · intro W hSw; go_simp; try rfl
    try simp only [Act.put, List.setIfInBounds_toArray, List.set_cons_zero, List.set_cons_succ]
    refine wpAnyH_ready (rs := [12]) (by kernel_rfl) (by simp) ?_
    refine AllReadyH.cons (o := { dst := some 105, op := Op.call { callee := Callee.value (Operand.func 10), args := #[], argTypes := #[] }, type := 4, pos := "law.go:86", after := #[{ on := 11, ground := Ground.chain }, { on := 11, ground := Ground.guard }], guard := some (11, true) }) rfl (fun K hK => ?_) AllReadyH.nil
    go_simp
    refine (known_law _).mono ?_; rintro e9 w5 ⟨rfl, hb5⟩
    go_wp2_with fail
    refine hK.out _ _ (step_below hHeld hb5) (fun hHeldn => ?_)
    clear hK K hHeld; have hHeld := hHeldn; clear hHeldn
    clear hb5
    try simp only [Act.put, List.setIfInBounds_toArray, List.set_cons_zero, List.set_cons_succ]
    refine tk 13 (.bool true) rfl (.inl ⟨by rfl, ?_⟩) ?_
    · intro W hSw; go_simp; try rfl
    try simp only [Act.put, List.setIfInBounds_toArray, List.set_cons_zero, List.set_cons_succ]
    refine tk 14 ?_ rfl (.inl ⟨by rfl, ?_⟩) ?_
    rotate_left
    · intro W hSw; go_simp; try with_reducible rfl
    try simp only [Act.put, List.setIfInBounds_toArray, List.set_cons_zero, List.set_cons_succ]
    refine wpAnyH_done (by kernel_rfl) ?_ _
    skip
    refine hKK _ _ ?_
    have HBZ := Lib.hid (step_below HBF.out hHeld)
    clear hKK hHeld
    go_wp2_with fail
    go_ret
    exact ⟨rfl, HBZ.out⟩
end Go.Proofs.YtglkndoghnblcaaGreat
namespace Go.Proofs.YtglkndoghnblcaaGreat.logFramesP
open Go.ChangeShapes Go.WideShapes Go.ChangeAt Go.RowKit
open Go.ChangeMaps (open_string shut_string)
set_option linter.unusedVariables false
set_option linter.unusedSimpArgs false

theorem own : ownKnob Tryz.prog.godebug = none := by kernel_rfl
theorem laidOut : laidOutB Tryz.prog = true := by kernel_rfl

set_option maxRecDepth 100000 in
theorem lifted (os : Os) (started : os.Started) (H : Type) (enc : TypeId × Value → H) :
    ReturnsInHanded {} Tryz.checked os 3 .any (Rows.logFramesSpec.pre6 enc Tryz.prog Tryz.f3 Rows.logFramesRow.domain false) (Rows.logFramesSpec.post enc Tryz.prog Tryz.f3 false true false false) := by
  refine returnsInHanded_of_change (C := Tryz.checked) own started (by kernel_rfl) Tryz.func3
    (ChangeSpec.witness6 (enc := enc) (C := Tryz.checked) false ⟨#[], #[.slice none 0 0, .slice none 0 0, .int .i64 0], []⟩ 12 (by kernel_rfl) (by kernel_rfl) (by kernel_rfl) (by kernel_rfl)) ?_
  intro W base args ds gs before hval0 hW hcnd _
  have hval : ∀ (j : Nat) t v, Tryz.f3.params[j]? = some t → args[j]? = some v → Value.okWide Tryz.prog W .any base t v := hval0
  have hW' := hW
  obtain ⟨p, q, hA0, hV, rfl, hfz, hnd⟩ := hW
  have hA : DataW.TrodAll enc Tryz.prog W 0 (fun _ => true) true Tryz.f3.params.toList args.toList ds p := hA0
  rw [Tryz.params3] at hA hval
  obtain ⟨v0, vs0, d0, ds0, p0, q0, hargs, rfl, rfl, h0, r0⟩ := trodAll_cons hA
  obtain ⟨v1, vs1, d1, ds1, p1, q1, rfl, rfl, rfl, h1, r1⟩ := trodAll_cons r0
  obtain ⟨v2, vs2, d2, ds2, p2, q2, rfl, rfl, rfl, h2, r2⟩ := trodAll_cons r1
  obtain ⟨rfl, rfl, rfl⟩ := trodAll_nil r2
  obtain rfl : args = #[v0, v1, v2] := by cases args; simp_all
  obtain ⟨rfl, rfl⟩ := trodVars_none hV
  obtain ⟨a0, len0, cap0, rfl⟩ := okWide_slice Tryz.underlying22 (hval 0 22 v0 rfl rfl)
  have k0 := h0
  have lt0 : ∀ x ∈ p0, x.block < W.heap.size := by obtain ⟨m, hm⟩ := k0; exact DataW.trod_lt m _ _ _ hm
  obtain ⟨z0, w0⟩ : ∃ zs, IsRow .u8 W a0 len0 cap0 zs := by
    obtain ⟨fuel, hf⟩ := h0
    rcases open_ints Tryz.underlying22 Tryz.underlying5 (by kernel_rfl) hf with ⟨hcs, _⟩ | ⟨x, l, c, zs, hcs, _, hl, hm, hz, _, hcell, hwz⟩
    · simp [Value.cells] at hcs
      obtain ⟨rfl, rfl, rfl⟩ := hcs
      exact ⟨[], .inl ⟨rfl, rfl, rfl, rfl⟩⟩
    · simp [Value.cells] at hcs
      obtain ⟨rfl, rfl, rfl⟩ := hcs
      exact ⟨zs, .inr ⟨_, rfl, hl, hm, by simpa using hz, hcell, hwz⟩⟩
  obtain ⟨a1, len1, cap1, rfl⟩ := okWide_slice Tryz.underlying22 (hval 1 22 v1 rfl rfl)
  have k1 := h1
  have lt1 : ∀ x ∈ p1, x.block < W.heap.size := by obtain ⟨m, hm⟩ := k1; exact DataW.trod_lt m _ _ _ hm
  obtain ⟨z1, w1⟩ : ∃ zs, IsRow .u8 W a1 len1 cap1 zs := by
    obtain ⟨fuel, hf⟩ := h1
    rcases open_ints Tryz.underlying22 Tryz.underlying5 (by kernel_rfl) hf with ⟨hcs, _⟩ | ⟨x, l, c, zs, hcs, _, hl, hm, hz, _, hcell, hwz⟩
    · simp [Value.cells] at hcs
      obtain ⟨rfl, rfl, rfl⟩ := hcs
      exact ⟨[], .inl ⟨rfl, rfl, rfl, rfl⟩⟩
    · simp [Value.cells] at hcs
      obtain ⟨rfl, rfl, rfl⟩ := hcs
      exact ⟨zs, .inr ⟨_, rfl, hl, hm, by simpa using hz, hcell, hwz⟩⟩
  have k2 := h2
  have lt2 : ∀ x ∈ p2, x.block < W.heap.size := by obtain ⟨m, hm⟩ := k2; exact DataW.trod_lt m _ _ _ hm
  obtain ⟨x2, rfl, _, _, g2⟩ := open_int Tryz.underlying3 (hval 2 3 v2 rfl rfl) h2
  have b2 : -9223372036854775808 ≤ x2 ∧ x2 ≤ 9223372036854775807 := by simpa [Lit.wf, IntKind.min, IntKind.max, IntKind.signed, IntKind.bits] using g2
  clear hA0 hval0
  refine (logframes_law a0 (z0.take len0) len0 cap0 w0.ls.2 w0.byt a1 (z1.take len1) len1 cap1 w1.ls.2 w1.byt x2 W w0.ls.1 w1.ls.1).mono fun e W' ⟨he, bel⟩ => ?_
  subst he
  exact ⟨_, rfl, _, _, _, [], _, [], hW', trodAll_mk1 (shut_bool Tryz.underlying4 _), (trodAll_cons_mk (Below.trod laidOut (by kernel_rfl) (of_decide_eq_true (by kernel_rfl)) k0 bel lt0) (trodAll_cons_mk (Below.trod laidOut (by kernel_rfl) (of_decide_eq_true (by kernel_rfl)) k1 bel lt1) (trodAll_cons_mk (Below.trod laidOut (by kernel_rfl) (of_decide_eq_true (by kernel_rfl)) k2 bel lt2) trodAll_mk0))), rfl, bel.frame _, fun h => by cases h⟩

theorem over : Rows.logFramesRow.holds Tryz.pinned (OpenSpec.ofChange Rows.logFramesSpec) :=
  OpenClaim.holds_of_wide 3 Tryz.f3 rfl rfl rfl rfl rfl rfl rfl ⟨rfl, rfl, rfl, rfl, rfl⟩ rfl rfl rfl rfl rfl (by kernel_rfl) Tryz.func3 (by kernel_rfl)
    (of_decide_eq_true (by kernel_rfl)) (by unfold Func.isWrapper; first | (rw [if_pos (by decide +kernel)]; kernel_rfl) | (rw [if_neg (by decide +kernel)]; exact ⟨rfl, rfl⟩))
    (fun os started H enc _ => lifted os started H enc)

theorem proved : Rows.LogFramesSaid := over
#print axioms proved
end Go.Proofs.YtglkndoghnblcaaGreat.logFramesP
