/- Part of the proof that ModelCopies holds for every input: a copy goes on apart; two models are the same just if tables and rows are. -/
import Derived.Test.YthmofoldmdafoaaGreatSck
set_option linter.unusedVariables false
set_option linter.unusedSimpArgs false
set_option maxRecDepth 100000
set_option maxHeartbeats 4000000
namespace Go.Proofs.YthmofoldmdafoaaGreat
open Go.ChangeShapes Go.WideShapes Go.ChangeAt Go.RowKit
open Go.Lib (hid)
open Go.Proofs.Tryz
section
open Go.Maps Go.Shelf
def OpSm (o : zj_) : Prop := o.kn <= 9000 /\ o.tn <= 9000 /\ o.rn <= 9000 /\ ∀ p ∈ o.R, p.bs.length <= 9000
theorem oc9 : ∀ (R : List P1) (s : Nat), Qs_ R s <= 9000 -> ∀ p ∈ R, p.bs.length <= 9000
 | [], s, _, p, hp => by cases hp
 | q :: r, s, h, p, hp => by
  unfold Qs_ at h
  split at h
  ·have h1 := szGo_ge r (s + min q.bs.length 1048576)
   rcases List.mem_cons.1 hp with e | hp
   ·subst e; omega
   ·exact oc9 r _ h p hp
  ·omega
theorem oc_ {R : List P1} (h : szF R <= 9000) : ∀ p ∈ R, p.bs.length <= 9000 := oc9 R _ h
def MuOS (L : List zj_) (r : Ending) : Prop := ∃ b, r = .returned (.bool b) /\ (b = false -> L.length <= 9000 /\ ∀ o ∈ L, OpSm o)
theorem QO_ (a : Option Addr) (L : List zj_) (n cap : Nat) (hL : L.length = n) (hn : n <= 140737488355328) (hB : ∀ o ∈ L, o.rn <= 140737488355328) (w : World) (hA : OpsR w a L) :
  Calls prog 74 #[.slice a n cap, .int .i64 9000] w fun r w' => MuOS L r /\ Below w.heap.size w w' := by
 have HA := hid (fun W (b : Below w.heap.size w W) => hA.below b)
 have HL := hid hL
 have HBD := hid hB
 have hni : (n : Int) <= 140737488355328 := by omega
 clear hA hL hB
 go_enter func74, ntmps74
 go_wp2_with fail
 go_loopw [5, 6] (fun x i wr => ∃ k s : Nat, k <= n /\ i = .int .i64 (k : Int) /\ x = .int .i64 (s : Int) /\ k <= s /\ s <= 281474976710656 /\ Hid (s <= 9000 -> ∀ q, q < k -> ∀ o, L[q]? = some o -> OpSm o) /\ Hid (Below w.heap.size w wr)) (fun _ i _ => n - (intOf i).toNat)
 case atStart => exact ⟨0, 0, by omega, rfl, rfl, by omega, by omega, hid (fun _ q hq => absurd hq Xt0), hid (Below.refl _ _)⟩
 case round =>
  obtain ⟨k, s, hk, rfl, rfl, hks, hs2, HP, BB⟩ := hrel
  have hsb : (s : Int) <= 281474976710656 := by omega
  by_cases hlt : k < n
  ·have hkl : (k : Int) < (n : Int) := by omega
   by_cases hs : s <= 9000
   ·have hsi : (s : Int) <= 9000 := by omega
    have hki : (k : Int) <= 9000 := by omega
    obtain ⟨o, ho⟩ : ∃ o, L[k]? = some o := ⟨_, List.getElem?_eq_getElem (by rw [HL.out]; exact hlt)⟩
    obtain ⟨b1, o1, ea, ⟨d0, d1, d2, d3, d4, d5, d6⟩, hc⟩ := HA.out _ BB.out k o ho
    subst ea
    have hrn := HBD.out o (List.mem_of_getElem? ho)
    have hg := szF_ge o.R
    have hle := szF_le o.R
    rw [hc.rl] at hg hle
    have HSZ := hid (fun m => (sizef_law o.ra o.R o.rn o.rc hc.rl (wr.drewN m) (hc.below (zl_ (Below.refl _ _) m)).rs))
    obtain ⟨z, hz⟩ := gtx (szF o.R)
    rw [hz] at hg hle HSZ
    have HZF := hid (show z <= 9000 -> ∀ p ∈ o.R, p.bs.length <= 9000 from fun h => oc_ (by rw [hz]; exact h))
    have HO := hid ho
    have hz0 : (0 : Int) <= (z : Int) := by omega
    have hz1 : (z : Int) <= 140737490452480 := by omega
    clear ho hc hz
    obtain ⟨km, hkm⟩ : ∃ km : Nat, km = min o.kn 9001 := ⟨_, rfl⟩
    obtain ⟨tm, htm⟩ : ∃ tm : Nat, tm = min o.tn 9001 := ⟨_, rfl⟩
    have HST := hid (show s + 1 + km + tm + z <= 9000 -> ∀ q, q < k + 1 -> ∀ o, L[q]? = some o -> OpSm o from fun h q hq p hp => by
     by_cases e : q = k
     ·subst e; rw [HO.out] at hp; cases hp; exact ⟨by omega, by omega, by omega, HZF.out Xt0⟩
     ·exact HP.out Xt0 q Xt0 p hp)
    have w1 : IntKind.i64.wrap ((s : Int) + 1) = (s : Int) + 1 := IntWalk.i64_in _ Xt0
    have w2 : IntKind.i64.wrap ((9000 : Int) + 1) = 9001 := by decide
    have w3 : IntKind.i64.wrap ((s : Int) + 1 + (km : Int)) = (s : Int) + 1 + (km : Int) := IntWalk.i64_in _ Xt0
    have w4 : IntKind.i64.wrap ((s : Int) + 1 + (km : Int) + (tm : Int)) = (s : Int) + 1 + (km : Int) + (tm : Int) := IntWalk.i64_in _ Xt0
    have w5 : IntKind.i64.wrap ((s : Int) + 1 + (km : Int) + (tm : Int) + (z : Int)) = (s : Int) + 1 + (km : Int) + (tm : Int) + (z : Int) := IntWalk.i64_in _ Xt0
    have hfin : s + 1 + km + tm + z <= 281474976710656 := by omega
    have m1 : min (o.kn : Int) 9001 = (km : Int) := by omega
    have m2 : min (o.tn : Int) 9001 = (tm : Int) := by omega
    have hkz : k + 1 <= s + 1 + km + tm + z := by omega
    have hcast : ((s : Int) + 1 + (km : Int) + (tm : Int) + (z : Int)) = ((s + 1 + km + tm + z : Nat) : Int) := by omega
    have HC := hid hcast
    have HKM := hid hkm
    have HTM := hid htm
    clear hkm htm hcast
    go_wp2_with fail
    go_quiet ((go_at_call 50; exact Calls.quiet_of_same (HSZ.out _)))
    go_wp2_with fail
    go_roundw
    case rel => exact ⟨k + 1, s + 1 + km + tm + z, by omega, by go_num, by have h1 := HKM.out; have h2 := HTM.out; rw [HC.out], hkz, hfin, HST, hid (zl_ BB.out _)⟩
    case measure => simp [intOf]; omega
   ·have hsi : ¬ (s : Int) <= 9000 := by omega
    have hsj : (9000 : Int) < (s : Int) := by omega
    exact Xb52
  ·have hkl : ¬ (k : Int) < (n : Int) := by omega
   by_cases hs : s <= 9000
   ·have hsi : ¬ (9000 : Int) < (s : Int) := by omega
    have HR := hid (show L.length <= 9000 /\ ∀ o ∈ L, OpSm o from ⟨by rw [HL.out]; omega, fun o ho => by
     obtain ⟨q, hq⟩ := List.mem_iff_getElem?.1 ho
     exact HP.out hs q Xt63 o hq⟩)
    exact Xb122
   ·have hsi : (9000 : Int) < (s : Int) := by omega
    exact Xb52
def MuTS (L : List zW_) (r : Ending) : Prop := ∃ b, r = .returned (.bool b) /\ (b = false -> L.length <= 9000 /\ ∀ x ∈ L, x.ops.length <= 9000 /\ ∀ o ∈ x.ops, OpSm o)
theorem ob9 (a : Option Addr) (L : List zW_) (n cap : Nat) (hL : L.length = n) (hn : n <= 140737488355328) (hB : ∀ x ∈ L, TxG x) (w : World) (hA : TxsR w a L) :
  Calls prog 30 #[.slice a n cap, .int .i64 9000] w fun r w' => MuTS L r /\ Below w.heap.size w w' := by
 have HA := hid (fun W (b : Below w.heap.size w W) => hA.below b)
 have HL := hid hL
 have HBD := hid hB
 have hni : (n : Int) <= 140737488355328 := by omega
 clear hA hL hB
 go_enter func30, ntmps30
 go_wp2_with fail
 go_loopw [5, 6] (fun x i wr => ∃ k s : Nat, k <= n /\ i = .int .i64 (k : Int) /\ x = .int .i64 (s : Int) /\ k <= s /\ s <= 20000 /\ Hid (s <= 9000 -> ∀ q, q < k -> ∀ x, L[q]? = some x -> x.ops.length <= 9000 /\ ∀ o ∈ x.ops, OpSm o) /\ Hid (Below w.heap.size w wr)) (fun _ i _ => n - (intOf i).toNat)
 case atStart => exact ⟨0, 0, by omega, rfl, rfl, by omega, by omega, hid (fun _ q hq => absurd hq Xt0), hid (Below.refl _ _)⟩
 case round =>
  obtain ⟨k, s, hk, rfl, rfl, hks, hs2, HP, BB⟩ := hrel
  have hsb : (s : Int) <= 20000 := by omega
  by_cases hlt : k < n
  ·have hkl : (k : Int) < (n : Int) := by omega
   by_cases hs : s <= 9000
   ·have hsi : (s : Int) <= 9000 := by omega
    have hki : (k : Int) <= 9000 := by omega
    obtain ⟨x, ho⟩ : ∃ o, L[k]? = some o := ⟨_, List.getElem?_eq_getElem (by rw [HL.out]; exact hlt)⟩
    obtain ⟨b1, o1, ea, ⟨d0, d1, d2⟩, hc⟩ := HA.out _ BB.out k x ho
    subst ea
    obtain ⟨hx1, hx2⟩ := HBD.out x (List.mem_of_getElem? ho)
    have HM := hid (QO_ x.oa x.ops x.on x.oc hc.ol hx1 hx2 wr hc.os)
    have HXL := hid hc.ol
    have HO := hid ho
    have hx1i : (x.on : Int) <= 140737488355328 := by omega
    have HD0 := hid (fun W (b : Below wr.heap.size wr W) => tcb b d0)
    clear ho hc hx2
    go_wp2_with fail
    refine HM.out.mono ?_; rintro r w5 ⟨⟨b, rfl, hb⟩, B5⟩
    have H5 := hid (za_ BB.out B5)
    have HBB := hid hb
    have e0 := HD0.out _ B5
    clear hb B5 d0 d1 d2
    cases b
    ·obtain ⟨hl9, ho9⟩ := HBB.out rfl
     have hon9 : x.on <= 9000 := by have := HXL.out; omega
     have hon9i : (x.on : Int) <= 9000 := by omega
     have HST := hid (show s + 1 + x.on <= 9000 -> ∀ q, q < k + 1 -> ∀ x, L[q]? = some x -> x.ops.length <= 9000 /\ ∀ o ∈ x.ops, OpSm o from fun h q hq p hp => by
      by_cases e : q = k
      ·subst e; rw [HO.out] at hp; cases hp; exact ⟨hl9, ho9⟩
      ·exact HP.out Xt0 q Xt0 p hp)
     clear hl9 ho9
     go_wp2_with fail
     go_roundw
     case rel => exact ⟨k + 1, s + 1 + x.on, by omega, by go_num, by go_num, by omega, by omega, HST, H5⟩
     case measure => simp [intOf]; omega
    ·go_wp2_with fail
     try rw [Exit.noGoto_ret]
     go_ret
     exact ⟨⟨true, rfl, fun h => by cases h⟩, H5.out⟩
   ·have hsi : ¬ (s : Int) <= 9000 := by omega
    have hsj : (9000 : Int) < (s : Int) := by omega
    exact Xb52
  ·have hkl : ¬ (k : Int) < (n : Int) := by omega
   by_cases hs : s <= 9000
   ·have hsi : ¬ (9000 : Int) < (s : Int) := by omega
    have HR := hid (show L.length <= 9000 /\ ∀ x ∈ L, x.ops.length <= 9000 /\ ∀ o ∈ x.ops, OpSm o from ⟨by rw [HL.out]; omega, fun o ho => by
     obtain ⟨q, hq⟩ := List.mem_iff_getElem?.1 ho
     exact HP.out hs q Xt63 o hq⟩)
    exact Xb122
   ·have hsi : (9000 : Int) < (s : Int) := by omega
    exact Xb52
theorem jA_ (j : Job) (a : Option Addr) (L : List zW_) (n c : Nat) (hL : L.length = n) (hn : n <= 140737488355328) (hB : ∀ x ∈ L, TxG x) (w : World) (hA : TxsR w a L) :
  Calls prog 8 #[.agg #[.int .i64 j.w, .int .i64 j.l, .int .i64 j.d, .int .i64 j.c, .int .i64 j.k, .int .i64 j.e, .slice j.a j.n j.cap], .slice a n c] w fun r w' => (∃ b, r = .returned (.bool b) /\ (b = false -> j.n <= 2000 /\ L.length <= 9000 /\ ∀ x ∈ L, x.ops.length <= 9000 /\ ∀ o ∈ x.ops, OpSm o)) /\ Below w.heap.size w w' := by
 have HK := hid (fun X (b : Below w.heap.size w X) => ob9 a L n c hL hn hB X (hA.below b))
 obtain ⟨w1, hw1⟩ := gty (w.alloc (.cells #[.int .i64 j.w, .int .i64 j.l, .int .i64 j.d, .int .i64 j.c, .int .i64 j.k, .int .i64 j.e, .slice j.a j.n j.cap] 24))
 have hb1 : Below w.heap.size w w1 := by rw [hw1]; exact bl1 _ _
 have hx1 : zg_ w1 w.heap.size #[.int .i64 j.w, .int .i64 j.l, .int .i64 j.d, .int .i64 j.c, .int .i64 j.k, .int .i64 j.e, .slice j.a j.n j.cap] 24 := by rw [hw1]; exact zg_.new _ _ _
 have c6 := hx1.cell 6
 simp only [gtA, gtB, gtC] at c6
 have HB1 := hid hb1
 clear hL hn hB hA hb1 hx1
 go_enter func8, ntmps8
 go_upto_region 1 with (fail)
 rw [← hw1]
 clear hw1
 by_cases h2 : j.n <= 2000
 ·have d : (j.n : Int) <= 2000 := by omega
  have d' : ¬ (2000 : Int) < (j.n : Int) := by omega
  go_wp2_with fail
  refine (HK.out w1 HB1.out).mono ?_; rintro r w2 ⟨⟨b, rfl, hb⟩, hb2⟩
  have HE := hid (And.intro hb (za_ HB1.out hb2))
  clear hb hb2
  go_wp2_with fail
  go_ret
  exact ⟨⟨b, rfl, fun e => ⟨h2, HE.out.1 e⟩⟩, HE.out.2⟩
 ·have d : ¬ (j.n : Int) <= 2000 := by omega
  have d' : (2000 : Int) < (j.n : Int) := by omega
  go_wp2_with fail
  go_ret
  exact ⟨rfl, HB1.out⟩
structure qe_ (lo : Nat) (W : World) (m0 m : Md) (p0 : Nat) (f : Rf) (S : Nat -> Prop) (N : Nat) : Prop where
 hm : MdR S W m
 hf : RfR S W f
 hs : ∀ k, S k -> k < W.heap.size
 ge : ∀ k, S k -> lo <= k
 lw : lo <= W.heap.size
 ms : zC_ m0 m
 fp : f.p = p0
 je : JEq f.j m.j
 P : f.P = m.P
 lm : ∀ z ∈ m.tabs, z.2.length <= N
 lf : ∀ z ∈ f.Ts, z.P.length <= N
variable {lo p0 q0 N M : Nat} {w w' W W' : World} {m0 m n0 n c0 c : Md} {f g : Rf} {S S2 : Nat -> Prop} {mo po no qo : Option Addr}
theorem qe_.below (h : qe_ lo W m0 m p0 f S N) (b : Below W.heap.size W W') : qe_ lo W' m0 m p0 f S N :=
 ⟨h.hm.below b, h.hf.below b, fun k hk => Nat.lt_of_lt_of_le (h.hs k hk) b.size, h.ge, Nat.le_trans h.lw b.size, h.ms, h.fp, h.je, h.P, h.lm, h.lf⟩
theorem qe_.more (h : qe_ lo W m0 m p0 f S N) (hN : N <= M) : qe_ lo W m0 m p0 f S M :=
 ⟨h.hm, h.hf, h.hs, h.ge, h.lw, h.ms, h.fp, h.je, h.P, fun z hz => Nat.le_trans (h.lm z hz) hN, fun z hz => Nat.le_trans (h.lf z hz) hN⟩
structure TxB (x : zW_) : Prop where
 on : x.on <= 9000
 ops : ∀ o ∈ x.ops, OpSm o
def DoT (lo : Nat) (w : World) (m0 m : Md) (p0 : Nat) (f : Rf) (S : Nat -> Prop) (N : Nat) (r : Ending) (w' : World) : Prop :=
 r = .returned (.bool true) /\ ∃ (m' : Md) (f' : Rf) (S' : Nat -> Prop), qe_ lo w' m0 m' p0 f' S' (N + 16) /\ Off (DoW m f) w w' /\ (∀ k, S' k -> S k ∨ w.heap.size <= k) /\ (∀ k, S k -> S' k)
theorem od0 (h : qe_ lo w m0 m p0 f S N) (hN : N <= 200000) (x : zW_) (hb : TxB x) (hx : zs_ S w fun W => zM_ W x) :
  Calls prog 13 #[.pointer (some ⟨m0.p, 0, none⟩), .pointer (some ⟨p0, 0, none⟩), .agg #[.slice x.oa x.on x.oc, .bool x.sn, .bool x.ab]] w (DoT lo w m0 m p0 f S N) := by
 have key := do13_law h.hm h.hf h.hs h.je h.P x hx hb.on hb.ops (fun z hz => Nat.le_trans (h.lm z hz) hN) (fun z hz => Nat.le_trans (h.lf z hz) hN)
 rw [h.ms.p, h.fp] at key
 refine key.mono ?_
 rintro r w' ⟨rfl, S', m', g, h1, h2, h3, ho, hm, hg, hms, hgp, hgj, hP, hl1, hl2⟩
 refine ⟨rfl, m', g, S', ⟨hm, hg, h2, fun k hk => (h1 k hk).elim (h.ge k) (Nat.le_trans h.lw), Nat.le_trans h.lw ho.size, h.ms.trans hms, hgp.trans h.fp, ?_, hP.symm, hl1 N h.lm, hl2 N h.lf⟩, ho, h1, h3⟩
 rw [hgj, hms.j]
 exact h.je
theorem oa6 (h : qe_ lo w m0 m p0 f S N) (hN : N <= 200000) (lv : Int) :
  Calls prog 14 #[.pointer (some ⟨m0.p, 0, none⟩), .pointer (some ⟨p0, 0, none⟩), .int .i64 lv] w fun r w' => r = .returned (.bool true) /\ Below w.heap.size w w' := by
 have key := stands_law h.hm h.hf h.hs h.je h.P (fun z hz => Nat.le_trans (h.lm z hz) hN) (fun z hz => Nat.le_trans (h.lf z hz) hN) lv
 rw [h.ms.p, h.fp] at key
 exact key
theorem jQ_ {T : Nat -> Prop} {w1 : World} {j : Job} (lo : Nat) (hlo : lo <= w1.heap.size) (hw1 : w1.heap.size <= w.heap.size) (hm : MdR S w m) (hS : ∀ k, S k -> w1.heap.size <= k /\ k < w.heap.size) (hmj : ∃ a c, m.j = { j with a := a, cap := c }) (hem : ∀ z ∈ m.tabs, z.2 = [])
  (hb : Below w.heap.size w w') (hp : w.heap.size <= f.p) (hb1 : w.heap.size <= f.b1) (hfj : ∃ a c, f.j = { j with a := a, cap := c }) (hTs : f.Ts = List.replicate j.n ⟨none, 0, []⟩) (hf : ∀ S : Nat -> Prop, (∀ k, S k -> k < w.heap.size ∨ k = f.p ∨ k = f.b1) -> S f.p -> S f.b1 -> RfR S w' f) :
  qe_ lo w' m m f.p f (fun k => S k ∨ k = f.p ∨ k = f.b1) 0 := by
 have hR : RfR (fun k => S k ∨ k = f.p ∨ k = f.b1) w' f := hf _ (fun k hk => hk.imp (fun h => (hS k h).2) id) (.inr (.inl rfl)) (.inr (.inr rfl))
 obtain ⟨a1, c1, e1⟩ := hmj
 obtain ⟨a2, c2, e2⟩ := hfj
 refine ⟨?_, hR, fun k hk => ?_, fun k hk => ?_, by have := hb.size; omega, zC_.rfl' m, rfl, ?_, ?_, fun z hz => by rw [hem z hz]; exact Nat.le_refl _, fun z hz => ?_⟩
 ·exact hm.off (T := fun _ => False) (Off.of hb) (fun _ h => h.elim) (fun _ _ h => h) (fun k hk => by
   rcases hk with h | h | h
   ·exact .inl h
   ·exact .inr (h ▸ hp)
   ·exact .inr (h ▸ hb1)) (fun z hz => .inl (hm.hS z hz))
 ·rcases hk with h | h | h
  ·have := (hS k h).2; have := hb.size; omega
  ·rw [h]; exact hR.box.lt
  ·rw [h]; obtain ⟨cs, hc⟩ := hR.tb; exact hc.lt
 ·rcases hk with h | h | h
  ·have := (hS k h).1; omega
  ·omega
  ·omega
 ·rw [e1, e2]
  exact (JEq.of j a2 c2).trans (JEq.of j a1 c1).symm
 ·have hl : m.tabs.length = j.n := by rw [hm.len, e1]
  have hP : m.P = List.replicate j.n [] := by
   refine List.eq_replicate_iff.2 ⟨by rw [m.P_len, hl], fun t ht => ?_⟩
   unfold Md.P at ht
   obtain ⟨z, hz, rfl⟩ := List.mem_map.1 ht
   rw [hem z hz]; rfl
  rw [hP]
  unfold Rf.P
  rw [hTs, List.map_replicate]
  rfl
 ·rw [hTs] at hz
  rw [(List.mem_replicate.1 hz).2]
  exact Nat.le_refl _
end
section
open Go.Maps Go.Shelf
theorem od2 {S S2 : Nat -> Prop} {W : World} {m : Md} {f : Rf} (hm : MdR S W m) (hf : RfR S2 W f) : ¬ zS_ m f.p /\ ¬ zS_ m f.b1 :=
 ⟨fun ⟨z, hz, e⟩ => (hm.maps z hz).ne_box hf.box e.symm, fun ⟨z, hz, e⟩ => by obtain ⟨cs, hc⟩ := hf.tb; exact (hm.maps z hz).ne_box hc e.symm⟩
end
theorem od1 {S S2 : Nat -> Prop} {f g : Rf} {w : World} (h : RfR S w f) (k : RfR S2 w g) (hl : ∀ x ∈ f.Ts, x.P.length <= 1000000) (kl : ∀ x ∈ g.Ts, x.P.length <= 1000000) :
  Calls prog 22 #[.pointer (some ⟨f.p, 0, none⟩), .pointer (some ⟨g.p, 0, none⟩)] w fun r w' => r = .returned (.bool (decide (f.j.T = g.j.T) && decide (f.P = g.P))) /\ Below w.heap.size w w' := by
 have HX := hid (fun X (b : Below w.heap.size w X) => (by
  have h1 := (h.below b).box
  have k1 := (k.below b).box
  exact ⟨by rw [h1.cell]; rfl, by rw [h1.cell]; rfl, by rw [k1.cell]; rfl, by rw [k1.cell]; rfl⟩ : X.cell? ⟨f.p, 6, none⟩ = some (.slice f.j.a f.j.n f.j.cap) /\ X.cell? ⟨f.p, 7, none⟩ = some (.slice (some ⟨f.b1, 0, none⟩) f.Ts.length f.tc) /\ X.cell? ⟨g.p, 6, none⟩ = some (.slice g.j.a g.j.n g.j.cap) /\ X.cell? ⟨g.p, 7, none⟩ = some (.slice (some ⟨g.b1, 0, none⟩) g.Ts.length g.tc)))
 have hfw := h.few
 have kfw := k.few
 have HTB := hid (fun X (b : Below w.heap.size w X) => xc_ (some ⟨f.b1, 0, none⟩) (some ⟨g.b1, 0, none⟩) f.Ts g.Ts f.Ts.length g.Ts.length f.tc g.tc rfl rfl Xt0 Xt0 (fun x hx => h.tok hx (hl x hx)) (fun x hx => k.tok hx (kl x hx)) X (h.below b).tbs.now (k.below b).tbs.now)
 have HJ := hid (fun X (b : Below w.heap.size w X) => And.intro (h.below b).job.now (k.below b).job.now)
 have hjl : f.j.T.length = f.j.n := h.job.now.len
 have kjl : g.j.T.length = g.j.n := k.job.now.len
 have HJL := hid (And.intro hjl kjl)
 have hn4 : (f.j.n : Int) <= 4 := by have := h.len; omega
 have kn4 : (g.j.n : Int) <= 4 := by have := k.len; omega
 clear h k hl kl hfw kfw
 go_enter func22, ntmps22
 go_upto_region 3 with (fail)
 by_cases hn : f.j.n = g.j.n
 ·have d0 : ((f.j.n : Int) != (g.j.n : Int)) = false := by simp [hn]
  have HN := hid hn
  clear hn hjl kjl
  refine rgw w (Below.refl _ _).drew fun hH => ?_
  refine tkq4 0 1 2 3 ?_
  refine tkr 4 rfl Xf25 ?_
  refine tkq4 5 6 7 8 ?_
  refine tkq 9 ?_
  refine tkr 10 rfl Xf25 ?_
  refine tkq 11 ?_
  refine tkp 12 (.bool false) rfl (.inl ⟨by rfl, ?_⟩) ?_
  ·intro W hSw; go_simp; try (first | exact d0 | rfl | (simp; done) | (simp; omega))
  refine adn ?_
  skip
  have HB0 := hid hH
  clear hH d0
  obtain ⟨w1, hw1⟩ := gty (w.drew)
  rw [← hw1] at HB0 ⊢
  clear hw1
  obtain ⟨m6, m7, k6, k7⟩ := HX.out w1 HB0.out
  go_wp2_with fail
  clear m6 m7 k6 k7
  go_loopw [5] (fun i wr => ∃ m : Nat, m <= f.j.n /\ i = .int .i64 (m : Int) /\ Hid (f.j.T.take m = g.j.T.take m) /\ Hid (Below w.heap.size w wr)) (fun i _ => f.j.n - (intOf i).toNat)
  case atStart => exact ⟨0, by omega, rfl, hid rfl, HB0⟩
  case round =>
   obtain ⟨m, hm, rfl, HTK, HBW⟩ := hrel
   obtain ⟨m6, m7, k6, k7⟩ := HX.out wr HBW.out
   by_cases hlt : m < f.j.n
   ·have d1 : (m : Int) < (f.j.n : Int) := by omega
    have d3 : (m : Int) < (g.j.n : Int) := by have := HN.out; omega
    obtain ⟨b1, o1, e1, q1⟩ := (HJ.out wr HBW.out).1.ls.rd m (by rw [HJL.out.1]; exact hlt)
    obtain ⟨b2, o2, e2, q2⟩ := (HJ.out wr HBW.out).2.ls.rd m (by rw [HJL.out.2, ← HN.out]; exact hlt)
    have hT : ∀ W, Below w.heap.size w W -> W.cell? ⟨b1, o1 + m, none⟩ = some (.int .i64 (f.j.T.getD m 0)) /\ W.cell? ⟨b2, o2 + m, none⟩ = some (.int .i64 (g.j.T.getD m 0)) := fun W b => by
     obtain ⟨b1', o1', e1', q1'⟩ := (HJ.out W b).1.ls.rd m (by rw [HJL.out.1]; exact hlt)
     obtain ⟨b2', o2', e2', q2'⟩ := (HJ.out W b).2.ls.rd m (by rw [HJL.out.2, ← HN.out]; exact hlt)
     rw [e1] at e1'; rw [e2] at e2'
     cases e1'; cases e2'
     exact ⟨q1', q2'⟩
    have hfg : ∀ m, m < f.j.n -> f.j.T[m]? = some (f.j.T.getD m 0) := fun m hm => by
     have hm : m < f.j.T.length := by rw [HJL.out.1]; exact hm
     rw [List.getD_eq_getElem?_getD, List.getElem?_eq_getElem hm]; rfl
    have hgg : ∀ m, m < f.j.n -> g.j.T[m]? = some (g.j.T.getD m 0) := fun m hm => by
     have hm : m < g.j.T.length := by rw [HJL.out.2, ← HN.out]; exact hm
     rw [List.getD_eq_getElem?_getD, List.getElem?_eq_getElem hm]; rfl
    have HFG := hid (And.intro (hfg m hlt) (hgg m hlt))
    clear hfg hgg
    obtain ⟨u, hu⟩ := gtx (f.j.T.getD m 0)
    obtain ⟨v, hv⟩ := gtx (g.j.T.getD m 0)
    rw [hu, hv] at HFG
    simp only [hu, hv] at hT
    rw [e1] at HX m6
    rw [e2] at HX k6
    have HT := hid hT
    clear hT q1 q2 hu hv
    go_upto_region 8 with (fail)
    clear m6 m7 k6 k7
    by_cases huv : u = v
    ·have d2 : (u != v) = false := by simp [huv]
     have HUV := hid huv
     clear huv
     refine rgw wr (Below.refl _ _).drew fun hH => ?_
     refine tkq4 0 1 2 3 ?_
     refine tkr 4 rfl Xf10 ?_
     refine tkq2 5 6 ?_
     refine tkr 7 rfl Xf42 ?_
     refine tkq4 8 9 10 11 ?_
     refine tkr 12 rfl Xf10 ?_
     refine tkq2 13 14 ?_
     refine tkr 15 rfl Xf43 ?_
     refine tkp 16 (.bool false) rfl (.inl ⟨by rfl, ?_⟩) ?_
     ·intro W hSw; go_simp; try (first | exact d2 | rfl)
     refine adn ?_
     skip
     have HB9 := hid (HBW.out.trans ((show Below wr.heap.size wr wr.drew from hH).mono HBW.out.size))
     clear hH
     go_wp2_with fail
     go_roundw
     case rel => exact ⟨m + 1, by omega, by go_num, hid (by rw [List.take_add_one, List.take_add_one, HTK.out, HFG.out.1, HFG.out.2, HUV.out]), HB9⟩
     case measure => simp [intOf]; omega
    ·have d2 : (u != v) = true := by simp [huv]
     have HUV := hid huv
     clear huv
     refine rgw wr (Below.refl _ _).drew fun hH => ?_
     refine tkq4 0 1 2 3 ?_
     refine tkr 4 rfl Xf10 ?_
     refine tkq2 5 6 ?_
     refine tkr 7 rfl Xf42 ?_
     refine tkq4 8 9 10 11 ?_
     refine tkr 12 rfl Xf10 ?_
     refine tkq2 13 14 ?_
     refine tkr 15 rfl Xf43 ?_
     refine tkp 16 (.bool true) rfl (.inl ⟨by rfl, ?_⟩) ?_
     ·intro W hSw; go_simp; try (first | exact d2 | rfl)
     refine adn ?_
     skip
     have HB9 := hid (HBW.out.trans ((show Below wr.heap.size wr wr.drew from hH).mono HBW.out.size))
     clear hH
     go_wp2_with fail
     go_ret
     refine ⟨?_, HB9.out⟩
     have hne : f.j.T ≠ g.j.T := fun e => by
      have h1 := HFG.out.1
      rw [e, HFG.out.2] at h1
      exact HUV.out (by simpa using h1.symm)
     rw [decide_eq_false hne]; rfl
   ·have d1 : ¬ (m : Int) < (f.j.n : Int) := by omega
    have HEQ := hid (show f.j.T = g.j.T by
     have h1 := HTK.out
     rw [List.take_of_length_le (by rw [HJL.out.1]; omega), List.take_of_length_le (by rw [HJL.out.2, ← HN.out]; omega)] at h1
     exact h1)
    go_upto_region 10 with (fail)
    clear m6 m7 k6 k7
    refine rgw wr (Below.refl _ _).drew fun hH => ?_
    refine tkq3 0 1 2 ?_
    refine tkr 3 rfl Xf10 ?_
    refine tkq3 4 5 6 ?_
    refine tkr 7 rfl Xf10 ?_
    refine tk1 8 rfl fun K hK => ?_
    go_simp
    refine (HTB.out _ (za_ HBW.out hH)).mono ?_; rintro r w9 ⟨rfl, hb9⟩
    have HB9 := hid (za_ hH hb9)
    clear hb9
    go_wp2_with fail
    refine hK.out _ _ HB9.out fun hH => ?_
    refine stP ?_
    refine tkq 9 ?_
    refine adn ?_
    skip
    have HBZ := hid (HBW.out.trans (HB9.out.mono HBW.out.size))
    go_wp2_with fail
    go_ret
    refine ⟨?_, HBZ.out⟩
    rw [decide_eq_true HEQ.out]
    rfl
 ·have d0 : ((f.j.n : Int) != (g.j.n : Int)) = true := by simp; omega
  have hne : f.j.T ≠ g.j.T := fun e => hn (by rw [← hjl, ← kjl, e])
  have HNE := hid hne
  clear hn hjl kjl hne
  refine rgw w (Below.refl _ _).drew fun hH => ?_
  refine tkq4 0 1 2 3 ?_
  refine tkr 4 rfl Xf25 ?_
  refine tkq4 5 6 7 8 ?_
  refine tkq 9 ?_
  refine tkr 10 rfl Xf25 ?_
  refine tkq 11 ?_
  refine tkp 12 (.bool true) rfl (.inl ⟨by rfl, ?_⟩) ?_
  ·intro W hSw; go_simp; try (first | exact d0 | rfl | (simp; done) | (simp; omega))
  refine adn ?_
  skip
  have HB0 := hid (show Below w.heap.size w w.drew from hH)
  clear hH d0
  go_wp2_with fail
  go_ret
  exact ⟨by rw [decide_eq_false HNE.out]; rfl, HB0.out⟩
theorem oa1 {S : Nat -> Prop} {f : Rf} {w : World} (h : RfR S w f) : Calls prog 22 #[.pointer (some ⟨f.p, 0, none⟩), .pointer none] w fun r w' => r = .returned (.bool false) /\ Below w.heap.size w w' := by
 go_enter func22, ntmps22
 exact Xb29
theorem oa2 {S : Nat -> Prop} {f : Rf} {w : World} (h : RfR S w f) : Calls prog 22 #[.pointer none, .pointer (some ⟨f.p, 0, none⟩)] w fun r w' => r = .returned (.bool false) /\ Below w.heap.size w w' := by
 go_enter func22, ntmps22
 exact Xb29
theorem oa3 (w : World) : Calls prog 22 #[.pointer none, .pointer none] w fun r w' => r = .returned (.bool true) /\ Below w.heap.size w w' := by
 go_enter func22, ntmps22
 exact Xb29
section
open Go.Maps Go.Shelf
variable {lo p0 q0 N M : Nat} {w w' W W' : World} {m0 m n0 n c0 c : Md} {f g : Rf} {S S2 : Nat -> Prop} {mo po no qo : Option Addr}
theorem oa0 (x0 x1 x2 : Value) (w : World) : Calls prog 66 #[.pointer none, .agg #[x0, x1, x2]] w fun r w' => r = .returned (.tuple #[.pointer none, .int .i64 1]) /\ Below w.heap.size w w' := by
 obtain ⟨w1, hw1⟩ := gty (w.alloc (.cells #[x0, x1, x2] 38))
 have hb1 : Below w.heap.size w w1 := by rw [hw1]; exact bl1 _ _
 have HB1 := hid hb1
 clear hb1
 go_enter func66, ntmps66
 go_upto_region 1 with (fail)
 try rw [← hw1]
 clear hw1
 go_wp2_with fail
 refine (yp_ _).mono ?_; rintro r w2 ⟨rfl, rfl⟩
 go_wp2_with fail
 go_ret2
 exact ⟨rfl, HB1.out⟩
theorem oc8 (x : zW_) (w : World) : Calls prog 24 #[.pointer none, .agg #[.slice x.oa x.on x.oc, .bool x.sn, .bool x.ab]] w fun r w' => (∃ v, r = .returned v) /\ Below w.heap.size w w' := by
 obtain ⟨oa, hoa⟩ := gtx (x.oa)
 obtain ⟨on, hon⟩ := gtx (x.on)
 obtain ⟨oc, hoc⟩ := gtx (x.oc)
 obtain ⟨sn, hsn⟩ := gtx (x.sn)
 obtain ⟨ab, hab⟩ := gtx (x.ab)
 rw [hoa, hon, hoc, hsn, hab]
 clear hoa hon hoc hsn hab
 obtain ⟨w1, hw1⟩ := gty (w.alloc (.cells #[.slice oa on oc, .bool sn, .bool ab] 38))
 have hb1 : Below w.heap.size w w1 := by rw [hw1]; exact bl1 _ _
 have hx1 : zg_ w1 w.heap.size #[.slice oa on oc, .bool sn, .bool ab] 38 := by rw [hw1]; exact zg_.new _ _ _
 have HB1 := hid hb1
 have c0 := hx1.cell 0
 have c1 := hx1.cell 1
 have c2 := hx1.cell 2
 simp only [gtA, gtB, gtC] at c0 c1 c2
 clear hb1 hx1
 go_enter func24, ntmps24
 go_upto_region 1 with (fail)
 try rw [← hw1]
 clear hw1
 go_wp2_with fail
 refine (oa0 _ _ _ _).mono ?_; rintro r w2 ⟨rfl, hb2⟩
 have HB2 := hid (za_ HB1.out hb2)
 clear hb2 c0 c1 c2
 go_wp2_with fail
 go_ret2
 exact ⟨⟨_, rfl⟩, HB2.out⟩
theorem oc7 (w : World) : Calls prog 23 #[.pointer none] w fun r w' => r = .returned (.pointer none) /\ Below w.heap.size w w' := by
 go_enter func23, ntmps23
 go_wp2_with fail
 refine (yp_ _).mono ?_; rintro r w2 ⟨rfl, rfl⟩
 exact Xb29
theorem qo_ (w : World) : Calls prog 21 #[.pointer none, .pointer none] w fun r w' => r = .returned (.bool true) /\ Below w.heap.size w w' := by
 go_enter func21, ntmps21
 go_wp2_with fail
 refine (yp_ _).mono ?_; rintro r w2 ⟨rfl, rfl⟩
 go_wp2_with fail
 refine (yp_ _).mono ?_; rintro r w2 ⟨rfl, rfl⟩
 go_wp2_with fail
 refine (yp_ _).mono ?_; rintro r w2 ⟨rfl, rfl⟩
 exact Xb29
theorem oa4 (h : MdR S w m) : Calls prog 21 #[.pointer (some ⟨m.p, 0, none⟩), .pointer none] w fun r w' => r = .returned (.bool false) /\ Below w.heap.size w w' := by
 have HN := hid (zX_ h)
 clear h
 go_enter func21, ntmps21
 go_wp2_with fail
 refine HN.out.mono ?_; rintro r w2 ⟨rfl, rfl⟩
 go_wp2_with fail
 refine (yp_ _).mono ?_; rintro r w2 ⟨rfl, rfl⟩
 go_wp2_with fail
 refine HN.out.mono ?_; rintro r w2 ⟨rfl, rfl⟩
 exact Xb29
theorem oa5 (h : MdR S w m) : Calls prog 21 #[.pointer none, .pointer (some ⟨m.p, 0, none⟩)] w fun r w' => r = .returned (.bool false) /\ Below w.heap.size w w' := by
 have HN := hid (zX_ h)
 clear h
 go_enter func21, ntmps21
 go_wp2_with fail
 refine (yp_ _).mono ?_; rintro r w2 ⟨rfl, rfl⟩
 go_wp2_with fail
 refine (yp_ _).mono ?_; rintro r w2 ⟨rfl, rfl⟩
 go_wp2_with fail
 refine HN.out.mono ?_; rintro r w2 ⟨rfl, rfl⟩
 exact Xb29
theorem oc6 (h : MdR S w m) (hS : ∀ k, S k -> k < w.heap.size) (x : zW_) (hx : zs_ S w fun W => zM_ W x) (hon : x.on <= 1000000) (hrn : ∀ o ∈ x.ops, o.rn <= 1000000) (hf : ∀ z ∈ m.tabs, z.2.length <= 300000) :
  Calls prog 24 #[.pointer (some ⟨m.p, 0, none⟩), .agg #[.slice x.oa x.on x.oc, .bool x.sn, .bool x.ab]] w fun r w' => (∃ v, r = .returned v) /\ ∃ m', MdR S w' m' /\ zC_ m m' /\ Off (zS_ m) w w' /\ (∀ N : Nat, (∀ x ∈ m.tabs, x.2.length <= N) -> ∀ x ∈ m'.tabs, x.2.length <= N + 16) := (do_law h hS x hx hon hrn hf).mono fun r w' hr => by
 unfold DoR at hr
 split at hr
 ·obtain ⟨m', a, c, rs, rfl, h1, h2, _, h3, h4, _⟩ := hr
  exact ⟨⟨_, rfl⟩, m', h1, h2, h3, h4⟩
 ·obtain ⟨rfl, hb⟩ := hr
  exact ⟨⟨_, rfl⟩, m, h.below hb, zC_.rfl' m, Off.of hb, fun N hN x hx => Nat.le_trans (hN x hx) Xt0⟩
theorem jR_ {S' T : Nat -> Prop} (h : qe_ lo w n0 n q0 g S N) (o : Off T w w') (hT : ∀ k, T k -> S k) (h1 : ∀ z ∈ n.tabs, ¬ T z.1) (h2 : ¬ T g.p) (h3 : ¬ T g.b1) (hs : ∀ k, S' k -> S k ∨ w.heap.size <= k) (hss : ∀ k, S k -> S' k) (hs2 : ∀ k, S' k -> k < w'.heap.size) : qe_ lo w' n0 n q0 g S' N :=
 ⟨h.hm.off o hT h1 hs (fun z hz => hss _ (h.hm.hS z hz)), h.hf.off o hT h2 h3 hs (hss _ h.hf.hp) (hss _ h.hf.hb), hs2, fun k hk => (hs k hk).elim (h.ge k) (Nat.le_trans h.lw), Nat.le_trans h.lw o.size, h.ms, h.fp, h.je, h.P, h.lm, h.lf⟩
theorem ob2 {S' : Nat -> Prop} (h : qe_ lo w n0 n q0 g S N) (b : Below w.heap.size w w') (hs : ∀ k, S' k -> S k ∨ w.heap.size <= k) (hss : ∀ k, S k -> S' k) (hs2 : ∀ k, S' k -> k < w'.heap.size) : qe_ lo w' n0 n q0 g S' N :=
 jR_ h (T := fun _ => False) (Off.of b) (fun _ h => h.elim) (fun _ _ h => h) (fun h => h) (fun h => h) hs hss hs2
theorem qX_ {m' : Md} (h : zC_ m m') {k : Nat} (hk : zS_ m' k) : zS_ m k := by
 obtain ⟨z, hz, rfl⟩ := hk
 exact h.mem hz
theorem oa7 {lo2 : Nat} (h : qe_ lo w m0 m p0 f S N) (k : qe_ lo2 w n0 n q0 g S2 M) (hd : ∀ i, zS_ m0 i -> ¬ zS_ n0 i) (hpq : p0 ≠ q0) :
  (∀ z ∈ n.tabs, ¬ DoW m f z.1) /\ ¬ DoW m f g.p /\ ¬ DoW m f g.b1 := by
 obtain ⟨n1, n2⟩ := od2 h.hm k.hf
 refine ⟨fun z hz hw => ?_, fun hw => ?_, fun hw => ?_⟩
 ·rcases hw with hw | hw
  ·exact hd _ (qX_ h.ms hw) (k.ms.mem hz)
  ·exact (k.hm.maps z hz).ne_box h.hf.box hw
 ·rcases hw with hw | hw
  ·exact n1 hw
  ·exact hpq (by rw [← h.fp, ← k.fp]; exact hw.symm)
 ·rcases hw with hw | hw
  ·exact n2 hw
  ·obtain ⟨cs, hc⟩ := k.hf.tb
   exact zo_ hc h.hf.box Xt4 hw
theorem ob0 {S0 S1 : Nat -> Prop} {w2 w3 w4 w5 w6 : World} {j0 j1 : Job} {p q : Rf} (lo : Nat) (hlo : lo <= w2.heap.size) (h23 : w2.heap.size <= w3.heap.size)
  (hm : MdR S0 w3 m) (hS0 : ∀ k, S0 k -> w2.heap.size <= k /\ k < w3.heap.size) (hmj : ∃ a c, m.j = { j0 with a := a, cap := c }) (hme : ∀ z ∈ m.tabs, z.2 = [])
  (hb4 : Below w3.heap.size w3 w4) (hn : MdR S1 w4 n) (h01 : ∀ k, S0 k -> S1 k) (h10 : ∀ k, S1 k -> S0 k ∨ w3.heap.size <= k) (h1 : ∀ k, S1 k -> k < w4.heap.size) (hnm : ∀ z ∈ n.tabs, w3.heap.size <= z.1) (hnj : ∃ a c, n.j = { j1 with a := a, cap := c }) (hne : ∀ z ∈ n.tabs, z.2 = [])
  (hb5 : Below w4.heap.size w4 w5) (hp : w4.heap.size <= p.p) (hpb : w4.heap.size <= p.b1) (hpj : ∃ a c, p.j = { j0 with a := a, cap := c }) (hpT : p.Ts = List.replicate j0.n ⟨none, 0, []⟩) (hpf : ∀ S : Nat -> Prop, (∀ k, S k -> k < w4.heap.size ∨ k = p.p ∨ k = p.b1) -> S p.p -> S p.b1 -> RfR S w5 p)
  (hb6 : Below w5.heap.size w5 w6) (hq : w5.heap.size <= q.p) (hqb : w5.heap.size <= q.b1) (hqj : ∃ a c, q.j = { j1 with a := a, cap := c }) (hqT : q.Ts = List.replicate j1.n ⟨none, 0, []⟩) (hqf : ∀ S : Nat -> Prop, (∀ k, S k -> k < w5.heap.size ∨ k = q.p ∨ k = q.b1) -> S q.p -> S q.b1 -> RfR S w6 q) :
  ∃ S, qe_ lo w6 m m p.p p S 0 /\ qe_ lo w6 n n q.p q S 0 /\ (∀ i, zS_ m i -> ¬ zS_ n i) /\ p.p ≠ q.p := by
 have hm4 : MdR S1 w4 m := hm.off (T := fun _ => False) (Off.of hb4) (fun _ h => h.elim) (fun _ _ h => h) h10 (fun z hz => h01 _ (hm.hS z hz))
 have hlo1 : ∀ k, S1 k -> w2.heap.size <= k := fun k hk => (h10 k hk).elim (fun h => (hS0 k h).1) (Nat.le_trans h23)
 have t1 := jQ_ (T := fun _ => False) lo hlo (w := w4) (Nat.le_trans h23 hb4.size) hm4 (fun k hk => ⟨hlo1 k hk, h1 k hk⟩) hmj hme hb5 hp hpb hpj hpT hpf
 obtain ⟨Sp, hSp⟩ : ∃ Sp : Nat -> Prop, Sp = fun k => S1 k ∨ k = p.p ∨ k = p.b1 := ⟨_, rfl⟩
 rw [← hSp] at t1
 have hSp1 : ∀ k, Sp k -> S1 k ∨ w4.heap.size <= k := fun k hk => by
  rw [hSp] at hk
  rcases hk with h | h | h
  ·exact .inl h
  ·exact .inr (h ▸ hp)
  ·exact .inr (h ▸ hpb)
 have hn5 : MdR Sp w5 n := hn.off (T := fun _ => False) (Off.of hb5) (fun _ h => h.elim) (fun _ _ h => h) hSp1 (fun z hz => by rw [hSp]; exact .inl (hn.hS z hz))
 have t2 := jQ_ (T := fun _ => False) (w1 := w2) lo hlo (w := w5) (Nat.le_trans h23 (Nat.le_trans hb4.size hb5.size)) hn5 (fun k hk => ⟨(hSp1 k hk).elim (hlo1 k) (Nat.le_trans (Nat.le_trans h23 hb4.size)), t1.hs k hk⟩) hnj hne hb6 hq hqb hqj hqT hqf
 refine ⟨_, ob2 t1 hb6 (fun k hk => ?_) (fun k hk => .inl hk) t2.hs, t2, fun i hi hi2 => ?_, fun e => ?_⟩
 ·rcases hk with h | h | h
  ·exact .inl h
  ·exact .inr (h ▸ hq)
  ·exact .inr (h ▸ hqb)
 ·obtain ⟨z, hz, rfl⟩ := hi
  obtain ⟨y, hy, e⟩ := hi2
  have h2 := (hS0 _ (hm.hS z hz)).2
  have h3 := hnm y hy
  omega
 ·have h2 : p.p < w5.heap.size := t1.hf.box.lt
  omega
theorem oa_ {lo2 : Nat} (h : qe_ lo w m0 m p0 f S N) (k : qe_ lo2 w n0 n q0 g S2 M) (hN : N <= 200000) (hM : M <= 200000) :
  ∃ b : Bool, (Calls prog 21 #[.pointer (some ⟨m0.p, 0, none⟩), .pointer (some ⟨n0.p, 0, none⟩)] w fun r w' => r = .returned (.bool b) /\ Below w.heap.size w w') /\ ∀ W, Below w.heap.size w W -> Calls prog 22 #[.pointer (some ⟨p0, 0, none⟩), .pointer (some ⟨q0, 0, none⟩)] W fun r w' => r = .returned (.bool b) /\ Below W.heap.size W w' := by
 refine ⟨decide (m.j.T = n.j.T) && decide (m.P = n.P), ?_, fun W b => ?_⟩
 ·have key := qW_ h.hm k.hm Xt33 (fun z hz => by have := k.lm z hz; omega)
  rw [h.ms.p, k.ms.p] at key
  exact key
 ·have key := od1 (h.below b).hf (k.below b).hf (fun z hz => by have := h.lf z hz; omega) (fun z hz => by have := k.lf z hz; omega)
  rw [h.fp, k.fp, h.je.T, k.je.T, h.P, k.P] at key
  exact key
theorem ob1 (h : qe_ lo w m0 m p0 f S N) (hN : N <= 200000) :
  Calls prog 21 #[.pointer (some ⟨m0.p, 0, none⟩), .pointer (some ⟨m0.p, 0, none⟩)] w fun r w' => r = .returned (.bool true) /\ Below w.heap.size w w' := by
 have key := qW_ h.hm h.hm Xt33 Xt33
 rw [h.ms.p, show (decide (m.j.T = m.j.T) && decide (m.P = m.P)) = true by simp] at key
 exact key
theorem oa8 (h : qe_ lo w m0 m p0 f S N) :
  (Calls prog 21 #[.pointer (some ⟨m0.p, 0, none⟩), .pointer none] w fun r w' => r = .returned (.bool false) /\ Below w.heap.size w w') /\ Calls prog 22 #[.pointer (some ⟨p0, 0, none⟩), .pointer none] w fun r w' => r = .returned (.bool false) /\ Below w.heap.size w w' := by
 have k1 := oa4 h.hm
 have k2 := oa1 h.hf
 rw [h.ms.p] at k1
 rw [h.fp] at k2
 exact ⟨k1, k2⟩
theorem oa9 (h : qe_ lo w m0 m p0 f S N) :
  (Calls prog 21 #[.pointer none, .pointer (some ⟨m0.p, 0, none⟩)] w fun r w' => r = .returned (.bool false) /\ Below w.heap.size w w') /\ Calls prog 22 #[.pointer none, .pointer (some ⟨p0, 0, none⟩)] w fun r w' => r = .returned (.bool false) /\ Below w.heap.size w w' := by
 have k1 := oa5 h.hm
 have k2 := oa2 h.hf
 rw [h.ms.p] at k1
 rw [h.fp] at k2
 exact ⟨k1, k2⟩
structure CpM (lo : Nat) (W : World) (m0 m : Md) (p0 : Nat) (f : Rf) (c0 c : Md) (S : Nat -> Prop) (N M : Nat) : Prop where
 tw : qe_ lo W m0 m p0 f S N
 hc : MdR S W c
 cs : zC_ c0 c
 ap : ∀ i, zS_ m0 i -> ¬ zS_ c0 i
 cl : ∀ z ∈ c.tabs, z.2.length <= M
theorem CpM.below (h : CpM lo W m0 m p0 f c0 c S N M) (b : Below W.heap.size W W') : CpM lo W' m0 m p0 f c0 c S N M := ⟨h.tw.below b, h.hc.below b, h.cs, h.ap, h.cl⟩
theorem ob3 (h : qe_ lo w m0 m p0 f S N) (hN : N <= 200000) :
  Calls prog 23 #[.pointer (some ⟨m0.p, 0, none⟩)] w fun r w' => ∃ (c : Md) (S' : Nat -> Prop), r = .returned (.pointer (some ⟨c.p, 0, none⟩)) /\ Below w.heap.size w w' /\ CpM lo w' m0 m p0 f c c S' N N /\ ∀ W, Below w'.heap.size w' W -> Calls prog 21 #[.pointer (some ⟨c.p, 0, none⟩), .pointer (some ⟨m0.p, 0, none⟩)] W fun r w'' => r = .returned (.bool true) /\ Below W.heap.size W w'' := by
 have key := copy_lawT S h.hs h.hm Xt33
 rw [h.ms.p] at key
 refine key.mono ?_
 rintro r w' ⟨S2, c, rfl, hb, hc, hss, hs, hs2, hcm, ⟨ja, jc, hcj⟩, hcP⟩
 have hcl : ∀ z ∈ c.tabs, z.2.length <= N := fun z hz => by
  have h1 : yh_ z.2 ∈ c.P := List.mem_map.2 ⟨z, hz, rfl⟩
  rw [hcP] at h1
  obtain ⟨y, hy, e⟩ := List.mem_map.1 h1
  have h2 := h.lm y hy
  have h3 := congrArg List.length e
  unfold yh_ at h3
  rw [List.length_map, List.length_map] at h3
  omega
 have ht := ob2 h hb hs hss hs2
 refine ⟨c, S2, rfl, hb, ⟨ht, hc, zC_.rfl' c, fun i hi hi2 => ?_, hcl⟩, fun W b => ?_⟩
 ·have h3 : zS_ m i := by
   obtain ⟨z, hz, rfl⟩ := hi
   have h4 : z.1 ∈ m.tabs.map Prod.fst := by rw [h.ms.f]; exact List.mem_map.2 ⟨z, hz, rfl⟩
   obtain ⟨y, hy, e⟩ := List.mem_map.1 h4
   exact ⟨y, hy, e.symm⟩
  obtain ⟨z, hz, rfl⟩ := h3
  obtain ⟨y, hy, e⟩ := hi2
  have h5 := h.hs _ (h.hm.hS z hz)
  have h6 := hcm y hy
  omega
 ·have key := qW_ (hc.below b) (ht.below b).hm (fun z hz => by have := hcl z hz; omega) Xt33
  rw [h.ms.p, show (decide (c.j.T = m.j.T) && decide (c.P = m.P)) = true by rw [hcP, hcj]; simp] at key
  exact key
theorem ob4 (h : CpM lo w m0 m p0 f c0 c S N M) (hM : M <= 200000) (x : zW_) (hx : zs_ S w fun W => zM_ W x) (hon : x.on <= 1000000) (hrn : ∀ o ∈ x.ops, o.rn <= 1000000) :
  Calls prog 24 #[.pointer (some ⟨c0.p, 0, none⟩), .agg #[.slice x.oa x.on x.oc, .bool x.sn, .bool x.ab]] w fun r w' => (∃ v, r = .returned v) /\ (∃ c', CpM lo w' m0 m p0 f c0 c' S N (M + 16)) /\ Off S w w' := by
 have key := oc6 h.hc h.tw.hs x hx hon hrn (fun z hz => by have := h.cl z hz; omega)
 rw [h.cs.p] at key
 refine key.mono ?_
 rintro r w' ⟨hv, c', h1, h2, ho, hl⟩
 have hT : ∀ k, zS_ c k -> S k := fun k ⟨z, hz, e⟩ => e ▸ h.hc.hS z hz
 obtain ⟨n1, n2⟩ := od2 h.hc h.tw.hf
 refine ⟨hv, ⟨c', jR_ h.tw ho hT (fun z hz hw => ?_) n1 n2 (fun _ h => .inl h) (fun _ h => h) (fun k hk => Nat.lt_of_lt_of_le (h.tw.hs k hk) ho.size), h1, h.cs.trans h2, h.ap, hl M h.cl⟩, ho.mono hT⟩
 exact h.ap _ (h.tw.ms.mem hz) (qX_ h.cs hw)
def pM : Option (Md × Rf) -> Option Addr | some z => some ⟨z.1.p, 0, none⟩ | none => none
def pR : Option (Md × Rf) -> Option Addr | some z => some ⟨z.2.p, 0, none⟩ | none => none
def ApM (x y : Option (Md × Rf)) : Prop := ∀ z u, x = some z -> y = some u -> (∀ i, zS_ z.1 i -> ¬ zS_ u.1 i) /\ z.2.p ≠ u.2.p
def OnM (lo : Nat) (W : World) (x : Option (Md × Rf)) (S : Nat -> Prop) (N : Nat) : Prop := ∀ z, x = some z -> qe_ lo W z.1 z.1 z.2.p z.2 S N
structure F4 (lo : Nat) (W : World) (mo po no qo : Option Addr) (M N : Nat) : Prop where
 ex : ∃ (x y : Option (Md × Rf)) (S : Nat -> Prop), mo = pM x /\ po = pR x /\ no = pM y /\ qo = pR y /\ (∀ k, S k -> k < W.heap.size) /\ (∀ k, S k -> lo <= k) /\ lo <= W.heap.size /\ OnM lo W x S M /\ OnM lo W y S N /\ ApM x y
theorem qe_.base (h : qe_ lo W m0 m p0 f S N) : qe_ lo W m m f.p f S N := ⟨h.hm, h.hf, h.hs, h.ge, h.lw, zC_.rfl' m, rfl, h.je, h.P, h.lm, h.lf⟩
theorem F4.below (h : F4 lo W mo po no qo M N) (b : Below W.heap.size W W') : F4 lo W' mo po no qo M N := by
 obtain ⟨x, y, S, e1, e2, e3, e4, h1, h2, h3, h4, h5, h6⟩ := h.ex
 exact ⟨x, y, S, e1, e2, e3, e4, fun k hk => Nat.lt_of_lt_of_le (h1 k hk) b.size, h2, Nat.le_trans h3 b.size, fun z hz => (h4 z hz).below b, fun z hz => (h5 z hz).below b, h6⟩
theorem F4.more {M' N' : Nat} (h : F4 lo W mo po no qo M N) (hM : M <= M') (hN : N <= N') : F4 lo W mo po no qo M' N' := by
 obtain ⟨x, y, S, e1, e2, e3, e4, h1, h2, h3, h4, h5, h6⟩ := h.ex
 exact ⟨x, y, S, e1, e2, e3, e4, h1, h2, h3, fun z hz => (h4 z hz).more hM, fun z hz => (h5 z hz).more hN, h6⟩
theorem F4.swap (h : F4 lo W mo po no qo M N) : F4 lo W no qo mo po N M := by
 obtain ⟨x, y, S, e1, e2, e3, e4, h1, h2, h3, h4, h5, h6⟩ := h.ex
 exact ⟨y, x, S, e3, e4, e1, e2, h1, h2, h3, h5, h4, fun z u hz hu => ⟨fun i a b => (h6 u z hu hz).1 i b a, Ne.symm (h6 u z hu hz).2⟩⟩
theorem F4.do1 {b : Addr} (h : F4 lo w mo (some b) no qo M N) (hN : M <= 200000) (x : zW_) (hb : TxB x) (hx : ∀ W', Off (fun k => lo <= k) w W' -> zM_ W' x) :
  Calls prog 13 #[.pointer mo, .pointer (some b), .agg #[.slice x.oa x.on x.oc, .bool x.sn, .bool x.ab]] w fun r w' => r = .returned (.bool true) /\ F4 lo w' mo (some b) no qo (M + 16) N /\ Off (fun k => lo <= k) w w' := by
 obtain ⟨z, y, S, e1, e2, e3, e4, h1, h2, h3, h4, h5, h6⟩ := h.ex
 cases z with
 | none => cases e2
 | some z =>
  have ht := h4 z rfl
  have hst : zs_ S w fun W => zM_ W x := fun W' o => hx W' (o.mono h2)
  unfold pM at e1
  unfold pR at e2
  cases e2
  subst e1
  have key := od0 ht hN x hb hst
  refine key.mono ?_
  rintro r w' ⟨rfl, m', f', S', g1, ho, hs, hss⟩
  have hz : S' = S' := rfl
  refine ⟨rfl, ⟨some (m', f'), y, S', (by show some (Addr.mk z.1.p 0 none) = some ⟨m'.p, 0, none⟩; rw [g1.ms.p]), (by show some (Addr.mk z.2.p 0 none) = some ⟨f'.p, 0, none⟩; rw [g1.fp]), e3, e4, g1.hs, g1.ge, g1.lw, (fun u hu => by cases hu; exact g1.base), fun u hu => ?_, fun u v hu hv => ?_⟩, ho.mono fun k hk => h2 k (DoW.sub ht.hm ht.hf k hk)⟩
  ·obtain ⟨a1, a2, a3⟩ := oa7 ht (h5 u hu) (h6 z u rfl hu).1 (h6 z u rfl hu).2
   exact jR_ (h5 u hu) ho (DoW.sub ht.hm ht.hf) a1 a2 a3 hs hss g1.hs
  ·cases hu
   have ha := h6 z v rfl hv
   refine ⟨fun i hi => ha.1 i (qX_ g1.ms hi), ?_⟩
   show f'.p ≠ v.2.p
   rw [g1.fp]
   exact ha.2
theorem F4.same (h : F4 lo w mo po no qo M N) (hM : M <= 200000) (hN : N <= 200000) :
  ∃ b : Bool, (Calls prog 21 #[.pointer mo, .pointer no] w fun r w' => r = .returned (.bool b) /\ Below w.heap.size w w') /\ ∀ W, Below w.heap.size w W -> Calls prog 22 #[.pointer po, .pointer qo] W fun r w' => r = .returned (.bool b) /\ Below W.heap.size W w' := by
 obtain ⟨x, y, S, rfl, rfl, rfl, rfl, h1, h2, h3, h4, h5, h6⟩ := h.ex
 cases x with
 | none =>
  cases y with
  | none => exact ⟨true, qo_ w, fun W _ => oa3 W⟩
  | some u => exact ⟨false, (oa9 (h5 u rfl)).1, fun W b => (oa9 ((h5 u rfl).below b)).2⟩
 | some z =>
  cases y with
  | none => exact ⟨false, (oa8 (h4 z rfl)).1, fun W b => (oa8 ((h4 z rfl).below b)).2⟩
  | some u => exact oa_ (h4 z rfl) (h5 u rfl) hM hN
theorem F4.self (h : F4 lo w mo po no qo M N) (hM : M <= 200000) :
  Calls prog 21 #[.pointer mo, .pointer mo] w fun r w' => r = .returned (.bool true) /\ Below w.heap.size w w' := by
 obtain ⟨x, y, S, rfl, rfl, rfl, rfl, h1, h2, h3, h4, h5, h6⟩ := h.ex
 cases x with
 | none => exact qo_ w
 | some z => exact ob1 (h4 z rfl) hM
theorem F4.copy (h : F4 lo w mo po no qo M N) (hM : M <= 200000) :
  Calls prog 23 #[.pointer mo] w fun r w' => (∃ co, r = .returned (.pointer co) /\ ((co = none /\ mo = none /\ po = none) ∨ ∃ (m : Md) (f : Rf) (c : Md) (S : Nat -> Prop), co = some ⟨c.p, 0, none⟩ /\ mo = some ⟨m.p, 0, none⟩ /\ po = some ⟨f.p, 0, none⟩ /\ CpM lo w' m m f.p f c c S M M) /\ ∀ W, Below w'.heap.size w' W -> Calls prog 21 #[.pointer co, .pointer mo] W fun r w'' => r = .returned (.bool true) /\ Below W.heap.size W w'') /\ Below w.heap.size w w' := by
 obtain ⟨x, y, S, rfl, rfl, rfl, rfl, h1, h2, h3, h4, h5, h6⟩ := h.ex
 cases x with
 | none => exact (oc7 w).mono fun r w' ⟨e, b⟩ => ⟨⟨none, e, .inl ⟨rfl, rfl, rfl⟩, fun W _ => qo_ W⟩, b⟩
 | some z => exact (ob3 (h4 z rfl) hM).mono fun r w' ⟨c, S', e, b, hc, hs⟩ => ⟨⟨_, e, .inr ⟨z.1, z.2, c, S', rfl, rfl, rfl, hc⟩, hs⟩, b⟩
def NewO (T : Nat -> Prop) (w : World) (j : Job) (o : Option Addr) (w' : World) : Prop := Below w.heap.size w w' /\ ((okB j = false /\ o = none) ∨ (okB j = true /\ ∃ (S : Nat -> Prop) (m : Md), o = some ⟨m.p, 0, none⟩ /\ MdR S w' m /\ (∀ k, T k -> S k) /\ (∀ k, S k -> T k ∨ w.heap.size <= k) /\ (∀ k, S k -> k < w'.heap.size) /\ (∀ x ∈ m.tabs, w.heap.size <= x.1) /\ (∃ a c, m.j = { j with a := a, cap := c }) /\ (∀ x ∈ m.tabs, x.2 = [])))
theorem ob6 (T : Nat -> Prop) (j : Job) (w : World) (hT : ∀ k, T k -> k < w.heap.size) (hj : z2_ w j) : Calls prog 10 #[.agg #[.int .i64 j.w, .int .i64 j.l, .int .i64 j.d, .int .i64 j.c, .int .i64 j.k, .int .i64 j.e, .slice j.a j.n j.cap]] w fun r w' => ∃ o e, r = .returned (.tuple #[.pointer o, .int .i64 e]) /\ NewO T w j o w' := (j5_ T j w hT hj).mono fun r w' h => by
 unfold Zc_ at h
 split at h
 ·rename_i hok
  obtain ⟨S, m, e, hb, h⟩ := h
  exact ⟨_, _, e, hb, .inr ⟨hok, S, m, rfl, h⟩⟩
 ·rename_i hok
  exact ⟨_, _, h.1, h.2, .inl ⟨by simpa using hok, rfl⟩⟩
def ob7 (w : World) (j : Job) (o : Option Addr) (w' : World) : Prop := Below w.heap.size w w' /\ ((okB j = false /\ o = none) ∨ (okB j = true /\ ∃ f : Rf, o = some ⟨f.p, 0, none⟩ /\ w.heap.size <= f.p /\ w.heap.size <= f.b1 /\ (∃ a c, f.j = { j with a := a, cap := c }) /\ f.Ts = List.replicate j.n ⟨none, 0, []⟩ /\ ∀ S : Nat -> Prop, (∀ k, S k -> k < w.heap.size ∨ k = f.p ∨ k = f.b1) -> S f.p -> S f.b1 -> RfR S w' f))
theorem ob5 (j : Job) (w : World) (hj : z2_ w j) : Calls prog 11 #[.agg #[.int .i64 j.w, .int .i64 j.l, .int .i64 j.d, .int .i64 j.c, .int .i64 j.k, .int .i64 j.e, .slice j.a j.n j.cap]] w fun r w' => ∃ o, r = .returned (.pointer o) /\ ob7 w j o w' := (rnew_law j w hj).mono fun r w' h => by
 unfold RNewR at h
 split at h
 ·rename_i hok
  obtain ⟨f, e, hb, h⟩ := h
  exact ⟨_, e, hb, .inr ⟨hok, f, rfl, h⟩⟩
 ·rename_i hok
  exact ⟨_, h.1, h.2, .inl ⟨by simpa using hok, rfl⟩⟩
theorem F4.new {w2 w3 w4 w5 w6 : World} {j0 j1 : Job} (lo : Nat) (hlo : lo <= w2.heap.size) (hm : NewO (fun _ => False) w2 j0 mo w3) (hn : NewO (fun k => w2.heap.size <= k /\ k < w3.heap.size) w3 j1 no w4) (hp : ob7 w4 j0 po w5) (hq : ob7 w5 j1 qo w6) : F4 lo w6 mo po no qo 0 0 := by
 obtain ⟨b3, hm⟩ := hm
 obtain ⟨b4, hn⟩ := hn
 obtain ⟨b5, hp⟩ := hp
 obtain ⟨b6, hq⟩ := hq
 have s6 : lo <= w6.heap.size := Nat.le_trans hlo (Nat.le_trans b3.size (Nat.le_trans b4.size (Nat.le_trans b5.size b6.size)))
 rcases hm with ⟨k0, rfl⟩ | ⟨k0, S0, m, rfl, m1, m2, m3, m4, m5, m6, m7⟩
 ·obtain rfl : po = none := by
   rcases hp with ⟨_, e⟩ | ⟨k0', _⟩
   ·exact e
   ·rw [k0] at k0'; cases k0'
  rcases hn with ⟨k1, rfl⟩ | ⟨k1, S1, n, rfl, n1, n2, n3, n4, n5, n6, n7⟩
  ·rcases hq with ⟨_, rfl⟩ | ⟨k1', _⟩
   ·exact ⟨none, none, fun _ => False, rfl, rfl, rfl, rfl, fun _ h => h.elim, fun _ h => h.elim, s6, Xt39, Xt39, fun _ _ h _ => by cases h⟩
   ·rw [k1] at k1'; cases k1'
  ·rcases hq with ⟨k1', _⟩ | ⟨_, g, rfl, g1, g2, g3, g4, g5⟩
   ·rw [k1] at k1'; cases k1'
   ·have hn5 : MdR (fun k => S1 k /\ w3.heap.size <= k) w5 n := (n1.off (S' := fun k => S1 k /\ w3.heap.size <= k) (T := fun _ => False) (Off.refl _ _) (fun _ h => h.elim) (fun _ _ h => h) (fun k hk => .inl hk.1) (fun z hz => ⟨n1.hS z hz, n5 z hz⟩)).below b5
    have t2 := jQ_ (T := fun _ => False) (w1 := w3) (w := w5) lo (Nat.le_trans hlo b3.size) (Nat.le_trans b4.size b5.size) hn5 (fun k hk => ⟨hk.2, Nat.lt_of_lt_of_le (n4 k hk.1) b5.size⟩) n6 n7 b6 g1 g2 g3 g4 g5
    exact ⟨none, some (n, g), _, rfl, rfl, rfl, rfl, t2.hs, t2.ge, s6, Xt39, (fun u hu => by cases hu; exact t2), fun _ _ h _ => by cases h⟩
 ·rcases hp with ⟨k0', _⟩ | ⟨_, f, rfl, f1, f2, f3, f4, f5⟩
  ·rw [k0] at k0'; cases k0'
  have hS0 : ∀ k, S0 k -> w2.heap.size <= k /\ k < w3.heap.size := fun k hk => ⟨(m3 k hk).resolve_left (fun h => h), m4 k hk⟩
  rcases hn with ⟨k1, rfl⟩ | ⟨k1, S1, n, rfl, n1, n2, n3, n4, n5, n6, n7⟩
  ·rcases hq with ⟨_, rfl⟩ | ⟨k1', _⟩
   ·have t1 := (jQ_ (T := fun _ => False) (w := w4) lo hlo (Nat.le_trans b3.size b4.size) (m1.below b4) (fun k hk => ⟨(hS0 k hk).1, Nat.lt_of_lt_of_le (hS0 k hk).2 b4.size⟩) m6 m7 b5 f1 f2 f3 f4 f5).below b6
    exact ⟨some (m, f), none, _, rfl, rfl, rfl, rfl, t1.hs, t1.ge, s6, (fun u hu => by cases hu; exact t1), Xt39, fun _ _ _ h => by cases h⟩
   ·rw [k1] at k1'; cases k1'
  ·rcases hq with ⟨k1', _⟩ | ⟨_, g, rfl, g1, g2, g3, g4, g5⟩
   ·rw [k1] at k1'; cases k1'
   ·have hn' : MdR (fun k => S0 k ∨ (S1 k /\ w3.heap.size <= k)) w4 n := n1.off (T := fun _ => False) (Off.refl _ _) (fun _ h => h.elim) (fun _ _ h => h) (fun k hk => hk.elim (fun h => .inl (n2 k (hS0 k h))) (fun h => .inl h.1)) (fun z hz => .inr ⟨n1.hS z hz, n5 z hz⟩)
    obtain ⟨S, t1, t2, ha, hpq⟩ := ob0 lo hlo b3.size m1 hS0 m6 m7 b4 hn' (fun k hk => .inl hk) (fun k hk => hk.imp id And.right) (fun k hk => hk.elim (fun h => Nat.lt_of_lt_of_le (hS0 k h).2 b4.size) (fun h => n4 k h.1)) n5 n6 n7 b5 f1 f2 f3 f4 f5 b6 g1 g2 g3 g4 g5
    exact ⟨some (m, f), some (n, g), S, rfl, rfl, rfl, rfl, t1.hs, t1.ge, s6, (fun u hu => by cases hu; exact t1), (fun u hu => by cases hu; exact t2), fun u v hu hv => by cases hu; cases hv; exact ⟨ha, hpq⟩⟩
theorem ob8 (jj kk : Job) (a1 : Option Addr) (L1 : List zW_) (n1 c1 : Nat) (hL1 : L1.length = n1) (hn1 : n1 <= 140737488355328) (hB1 : ∀ x ∈ L1, TxG x) (a2 : Option Addr) (L2 : List zW_) (n2 c2 : Nat) (hL2 : L2.length = n2) (hn2 : n2 <= 140737488355328) (hB2 : ∀ x ∈ L2, TxG x) (w : World) (hjl : Ls .i64 w jj.a jj.cap jj.T) (hjT : jj.T.length = jj.n) (hkl : Ls .i64 w kk.a kk.cap kk.T) (hkT : kk.T.length = kk.n) (hA1 : TxsR w a1 L1) (hA2 : TxsR w a2 L2) :
  Calls prog 5 #[.agg #[.int .i64 jj.w, .int .i64 jj.l, .int .i64 jj.d, .int .i64 jj.c, .int .i64 jj.k, .int .i64 jj.e, .slice jj.a jj.n jj.cap, .int .i64 kk.w, .int .i64 kk.l, .int .i64 kk.d, .int .i64 kk.c, .int .i64 kk.k, .int .i64 kk.e, .slice kk.a kk.n kk.cap], .slice a1 n1 c1, .slice a2 n2 c2] w fun r w' => r = .returned (.bool true) /\ Below w.heap.size w w' := by
 have HL1 := hid hL1
 have HL2 := hid hL2
 have HA1 := hid (fun X (b : Below w.heap.size w X) => hA1.below b)
 have HA2 := hid (fun X (b : Below w.heap.size w X) => hA2.below b)
 have HJL := hid (And.intro hjl hjT)
 have HKL := hid (And.intro hkl hkT)
 have HMU1 := hid (fun X (b : Below w.heap.size w X) => jA_ jj a1 L1 n1 c1 hL1 hn1 hB1 X (hA1.below b))
 have HMU2 := hid (fun X (b : Below w.heap.size w X) => jA_ kk a2 L2 n2 c2 hL2 hn2 hB2 X (hA2.below b))
 have hnn1 : (n1 : Int) <= 140737488355328 := by omega
 have hnn2 : (n2 : Int) <= 140737488355328 := by omega
 obtain ⟨w1, hw1⟩ := gty (w.alloc (.cells #[.int .i64 jj.w, .int .i64 jj.l, .int .i64 jj.d, .int .i64 jj.c, .int .i64 jj.k, .int .i64 jj.e, .slice jj.a jj.n jj.cap, .int .i64 kk.w, .int .i64 kk.l, .int .i64 kk.d, .int .i64 kk.c, .int .i64 kk.k, .int .i64 kk.e, .slice kk.a kk.n kk.cap] 55))
 have hb1 : Below w.heap.size w w1 := by rw [hw1]; exact bl1 _ _
 have hx1 : zg_ w1 w.heap.size #[.int .i64 jj.w, .int .i64 jj.l, .int .i64 jj.d, .int .i64 jj.c, .int .i64 jj.k, .int .i64 jj.e, .slice jj.a jj.n jj.cap, .int .i64 kk.w, .int .i64 kk.l, .int .i64 kk.d, .int .i64 kk.c, .int .i64 kk.k, .int .i64 kk.e, .slice kk.a kk.n kk.cap] 55 := by rw [hw1]; exact zg_.new _ _ _
 have HC := hid (fun X (b : Below w1.heap.size w1 X) => (⟨(hx1.below b).cell 0, (hx1.below b).cell 1, (hx1.below b).cell 2, (hx1.below b).cell 3, (hx1.below b).cell 4, (hx1.below b).cell 5, (hx1.below b).cell 6, (hx1.below b).cell 7, (hx1.below b).cell 8, (hx1.below b).cell 9, (hx1.below b).cell 10, (hx1.below b).cell 11, (hx1.below b).cell 12, (hx1.below b).cell 13⟩ : X.cell? ⟨w.heap.size, 0, none⟩ = some (.int .i64 jj.w) /\ X.cell? ⟨w.heap.size, 1, none⟩ = some (.int .i64 jj.l) /\ X.cell? ⟨w.heap.size, 2, none⟩ = some (.int .i64 jj.d) /\ X.cell? ⟨w.heap.size, 3, none⟩ = some (.int .i64 jj.c) /\ X.cell? ⟨w.heap.size, 4, none⟩ = some (.int .i64 jj.k) /\ X.cell? ⟨w.heap.size, 5, none⟩ = some (.int .i64 jj.e) /\ X.cell? ⟨w.heap.size, 6, none⟩ = some (.slice jj.a jj.n jj.cap) /\ X.cell? ⟨w.heap.size, 7, none⟩ = some (.int .i64 kk.w) /\ X.cell? ⟨w.heap.size, 8, none⟩ = some (.int .i64 kk.l) /\ X.cell? ⟨w.heap.size, 9, none⟩ = some (.int .i64 kk.d) /\ X.cell? ⟨w.heap.size, 10, none⟩ = some (.int .i64 kk.c) /\ X.cell? ⟨w.heap.size, 11, none⟩ = some (.int .i64 kk.k) /\ X.cell? ⟨w.heap.size, 12, none⟩ = some (.int .i64 kk.e) /\ X.cell? ⟨w.heap.size, 13, none⟩ = some (.slice kk.a kk.n kk.cap)))
 have HB1 := hid hb1
 have HD1 := hid (Below.refl w1.heap.size w1)
 clear hL1 hn1 hB1 hA1 hL2 hn2 hB2 hA2 hb1 hx1 hjl hjT hkl hkT
 obtain ⟨c0, c1, c2, c3, c4, c5, c6, c7, c8, c9, c10, c11, c12, c13⟩ := HC.out w1 HD1.out
 go_enter func5, ntmps5
 go_upto_region 1 with (fail)
 rw [← hw1]
 clear hw1
 go_wp2_with fail
 refine (HMU1.out w1 HB1.out).mono ?_; rintro r w2 ⟨⟨b, rfl, hb⟩, hb2⟩
 have HMB1 := hid hb
 have HB2 := hid (za_ HB1.out hb2)
 have HD2 := hid (za_ HD1.out hb2)
 clear hb hb2 c0 c1 c2 c3 c4 c5 c6 c7 c8 c9 c10 c11 c12 c13
 obtain ⟨c0, c1, c2, c3, c4, c5, c6, c7, c8, c9, c10, c11, c12, c13⟩ := HC.out w2 HD2.out
 cases b with
 | true =>
  go_wp2_with fail
  refine (xM_ _).mono ?_; rintro r w8 ⟨rfl, hb8⟩
  have HB8 := hid (za_ HB2.out hb8)
  exact Xb87
 | false =>
  go_wp2_with fail
  refine (HMU2.out w2 HB2.out).mono ?_; rintro r w3 ⟨⟨b, rfl, hb⟩, hb3⟩
  have HMB2 := hid hb
  have HB3 := hid (za_ HB2.out hb3)
  have HD3 := hid (za_ HD2.out hb3)
  clear hb hb3 c0 c1 c2 c3 c4 c5 c6 c7 c8 c9 c10 c11 c12 c13
  obtain ⟨c0, c1, c2, c3, c4, c5, c6, c7, c8, c9, c10, c11, c12, c13⟩ := HC.out w3 HD3.out
  cases b with
  | true =>
   go_wp2_with fail
   refine (xM_ _).mono ?_; rintro r w8 ⟨rfl, hb8⟩
   have HB8 := hid (za_ HB3.out hb8)
   exact Xb87
  | false =>
   obtain ⟨m1, m2, m3⟩ := HMB1.out (by first | rfl | trivial)
   obtain ⟨k1, k2, k3⟩ := HMB2.out (by first | rfl | trivial)
   have HMM1 := hid m3
   have HMM2 := hid k3
   have HJA := hid (show z2_ w3 jj from ⟨HJL.out.1.below HB3.out, HJL.out.2, by omega⟩)
   have HJB := hid (show z2_ w3 kk from ⟨HKL.out.1.below HB3.out, HKL.out.2, by omega⟩)
   clear m1 m2 m3 k1 k2 k3
   go_wp2_with fail
   refine (ob6 (fun _ => False) jj w3 (fun _ h => h.elim) HJA.out).mono ?_; rintro r w4 ⟨mo, e4, rfl, hm4⟩
   have HN4 := hid hm4
   have HB34 := hid hm4.1
   have HD4 := hid (za_ HD3.out hm4.1)
   clear hm4 c0 c1 c2 c3 c4 c5 c6 c7 c8 c9 c10 c11 c12 c13
   obtain ⟨c0, c1, c2, c3, c4, c5, c6, c7, c8, c9, c10, c11, c12, c13⟩ := HC.out w4 HD4.out
   go_wp2_with fail
   refine (ob6 (fun k => w3.heap.size <= k /\ k < w4.heap.size) kk w4 (fun k hk => hk.2) (HJB.out.below HB34.out)).mono ?_; rintro r w5 ⟨no, e5, rfl, hm5⟩
   have HN5 := hid hm5
   have HD5 := hid (za_ HD4.out hm5.1)
   have HB35 := hid (za_ HB34.out hm5.1)
   clear hm5 c0 c1 c2 c3 c4 c5 c6 c7 c8 c9 c10 c11 c12 c13
   go_upto_region 5 with (fail)
   have HC5 := hid (fun X (b : Below w5.heap.size w5 X) => HC.out X (za_ HD5.out b))
   refine rgw w5 (Below.refl _ _).drew fun hH => ?_
   refine tkq 0 ?_
   refine tkr 1 rfl (fun W hSw => by have m := HC5.out W hSw; exact tks) ?_
   refine tkq 3 ?_
   refine tkr 4 rfl (fun W hSw => by have m := HC5.out W hSw; exact tks) ?_
   refine tk1 2 rfl fun K hK => ?_
   go_simp
   refine (ob5 jj _ (HJA.out.below (za_ HB35.out hH))).mono ?_; rintro r w6 ⟨po, rfl, hrpo⟩
   have HRpo := hid hrpo
   have HBc := za_ hH hrpo.1
   clear hrpo
   go_wp2_with fail
   refine hK.out _ _ HBc fun hH => ?_
   clear HBc
   refine stP ?_
   refine tk1 5 rfl fun K hK => ?_
   go_simp
   refine (ob5 kk _ (HJB.out.below (za_ HB35.out hH))).mono ?_; rintro r w7 ⟨qo, rfl, hrqo⟩
   have HRqo := hid hrqo
   have HBc := za_ hH hrqo.1
   clear hrqo
   go_wp2_with fail
   refine hK.out _ _ HBc fun hH => ?_
   clear HBc
   refine stP ?_
   refine tkq2 6 7 ?_
   refine adn ?_
   skip
   have HBW := hid (za_ HB3.out (za_ HB35.out hH))
   have HF := hid (F4.new w.heap.size HB3.out.size HN4.out HN5.out ⟨za_ (Below.refl _ w5).drew HRpo.out.1, HRpo.out.2⟩ HRqo.out)
   clear hH HN4 HN5 HRpo HRqo HC5 HD5 HB35 HB34
   go_upto_block 0 with (fail)
   go_cut [] (fun wx => Hid (F4 w.heap.size wx mo po no qo 640 0) /\ Hid (Below w.heap.size w wx))
   case first =>
    go_wp2_with fail
    go_loopw [13] (fun i wr => ∃ (k : Nat), k <= 40 /\ k <= n1 /\ i = .int .i64 (k : Int) /\ Hid (F4 w.heap.size wr mo po no qo (16 * k) 0) /\ Hid (Below w.heap.size w wr)) (fun i _ => n1 - (intOf i).toNat)
    case atStart => exact ⟨0, by omega, by omega, rfl, HF, HBW⟩
    case round =>
     clear HF HBW
     obtain ⟨k, hk1, hk2, rfl, HF, HBW⟩ := hrel
     by_cases hlt : k < n1
     ·have d1 : (k : Int) < (n1 : Int) := by omega
      by_cases h40 : k < 40
      ·have d2 : (k : Int) < 40 := by omega
       rcases po with _ | bp
       ·exact Xb40
       ·obtain ⟨x, hx⟩ : ∃ x, L1[k]? = some x := ⟨_, List.getElem?_eq_getElem (by rw [HL1.out]; exact hlt)⟩
        obtain ⟨b9, o9, e9, ⟨q0, q1, q2⟩, ht9⟩ := HA1.out wr HBW.out k x hx
        cases e9
        have hxm := HMM1.out x (List.mem_of_getElem? hx)
        have HKEY := hid (HF.out.do1 Xt0 x ⟨by have := ht9.ol; have := hxm.1; omega, hxm.2⟩ (fun W' o => by obtain ⟨_, _, _, _, ht⟩ := HA1.out W' (Off.below HBW.out o HBW.out.size (fun q hq => hq)) k x hx; exact ht))
        clear hx hxm ht9
        go_wp2_with fail
        refine HKEY.out.mono ?_; clear HKEY; rintro r w9 ⟨rfl, hf9, ho9⟩
        have HF9 := hid hf9
        exact Xb54
      ·have d2 : ¬ (k : Int) < 40 := by omega
       exact Xb40
     ·have d1 : ¬ (k : Int) < (n1 : Int) := by omega
      exact Xb40
   case rest =>
    obtain ⟨HF, HBW⟩ := hcut
    go_upto_block 2 with (fail)
    go_cut [] (fun wx => Hid (F4 w.heap.size wx mo po no qo 640 640) /\ Hid (Below w.heap.size w wx))
    case first =>
     go_wp2_with fail
     go_loopw [14] (fun i wr => ∃ (k : Nat), k <= 40 /\ k <= n2 /\ i = .int .i64 (k : Int) /\ Hid (F4 w.heap.size wr mo po no qo 640 (16 * k)) /\ Hid (Below w.heap.size w wr)) (fun i _ => n2 - (intOf i).toNat)
     case atStart => exact ⟨0, by omega, by omega, rfl, HF, HBW⟩
     case round =>
      clear HF HBW
      obtain ⟨k, hk1, hk2, rfl, HF, HBW⟩ := hrel
      by_cases hlt : k < n2
      ·have d1 : (k : Int) < (n2 : Int) := by omega
       by_cases h40 : k < 40
       ·have d2 : (k : Int) < 40 := by omega
        rcases qo with _ | bp
        ·exact Xb40
        ·obtain ⟨x, hx⟩ : ∃ x, L2[k]? = some x := ⟨_, List.getElem?_eq_getElem (by rw [HL2.out]; exact hlt)⟩
         obtain ⟨b9, o9, e9, ⟨q0, q1, q2⟩, ht9⟩ := HA2.out wr HBW.out k x hx
         cases e9
         have hxm := HMM2.out x (List.mem_of_getElem? hx)
         have HKEY := hid (HF.out.swap.do1 Xt0 x ⟨by have := ht9.ol; have := hxm.1; omega, hxm.2⟩ (fun W' o => by obtain ⟨_, _, _, _, ht⟩ := HA2.out W' (Off.below HBW.out o HBW.out.size (fun q hq => hq)) k x hx; exact ht))
         clear hx hxm ht9
         go_wp2_with fail
         refine HKEY.out.mono ?_; clear HKEY; rintro r w9 ⟨rfl, hf9, ho9⟩
         have HF9 := hid hf9.swap
         exact Xb54
       ·have d2 : ¬ (k : Int) < 40 := by omega
        exact Xb40
      ·have d1 : ¬ (k : Int) < (n2 : Int) := by omega
       exact Xb40
    case rest =>
     obtain ⟨HF, HBW⟩ := hcut
     obtain ⟨sb, k1, k2⟩ := HF.out.same Xt0 Xt0
     have HK1 := hid k1
     have HK2 := hid k2
     have esb : (sb != sb) = false := by simp
     clear k1 k2
     go_wp2_with fail
     refine HK1.out.mono ?_; rintro r wd ⟨rfl, hbd⟩
     have HBd := hid hbd
     clear hbd
     go_wp2_with fail
     refine (HK2.out _ HBd.out).mono ?_; rintro r we ⟨rfl, hbe⟩
     have HBe := hid (za_ HBd.out hbe)
     clear hbe
     go_wp2_with fail
     refine ((HF.out.below HBe.out).self Xt0).mono ?_; rintro r wf ⟨rfl, hbf⟩
     have HBf := hid (za_ HBe.out hbf)
     clear hbf
     go_wp2_with fail
     refine ((HF.out.below HBf.out).copy Xt0).mono ?_; rintro r wg ⟨⟨co, rfl, hco, hsm⟩, hbg⟩
     have HSM := hid hsm
     have HBg := hid (za_ HBf.out hbg)
     clear hbg hsm
     rcases hco with ⟨rfl, rfl, rfl⟩ | ⟨m, f, cp, Sc, rfl, rfl, rfl, hcp⟩
     ·go_wp2_with fail
      refine (HSM.out _ (Below.refl _ _)).mono ?_; rintro r wh ⟨rfl, hbh⟩
      have HBh := hid (za_ HBW.out (za_ HBg.out hbh))
      clear hbh
      go_upto_block 4 with (fail)
      go_cut [] (fun wx => Hid (Below w.heap.size w wx))
      case first =>
       go_wp2_with fail
       go_loopw [16] (fun i wr => ∃ (k : Nat), k <= 40 /\ k <= n2 /\ i = .int .i64 (k : Int) /\ Hid (Below w.heap.size w wr)) (fun i _ => n2 - (intOf i).toNat)
       case atStart => exact ⟨0, by omega, by omega, rfl, HBh⟩
       case round =>
        obtain ⟨k, hk1, hk2, rfl, HBR⟩ := hrel
        by_cases hlt : k < n2
        ·have d1 : (k : Int) < (n2 : Int) := by omega
         by_cases h40 : k < 40
         ·have d2 : (k : Int) < 40 := by omega
          obtain ⟨x, hx⟩ : ∃ x, L2[k]? = some x := ⟨_, List.getElem?_eq_getElem (by rw [HL2.out]; exact hlt)⟩
          obtain ⟨b9, o9, e9, ⟨q0, q1, q2⟩, ht9⟩ := HA2.out wr HBR.out k x hx
          cases e9
          clear hx ht9
          go_wp2_with fail
          refine (oc8 x _).mono ?_; rintro r w9 ⟨⟨v, rfl⟩, hb9⟩
          have HB9 := hid (za_ HBR.out hb9)
          clear hb9 q0 q1 q2
          go_wp2_with fail
          go_roundw
          case rel => exact ⟨k + 1, by omega, by omega, by go_num, HB9⟩
          case measure => simp [intOf]; omega
         ·have d2 : ¬ (k : Int) < 40 := by omega
          go_wp2_with fail
          go_meet
          exact HBR
        ·have d1 : ¬ (k : Int) < (n2 : Int) := by omega
         go_wp2_with fail
         go_meet
         exact HBR
      case rest =>
       have HBR := hcut
       go_wp2_with fail
       go_ret
       exact ⟨rfl, HBR.out⟩
     ·have HCP := hid hcp
      clear hcp
      go_wp2_with fail
      refine (HSM.out _ (Below.refl _ _)).mono ?_; rintro r wh ⟨rfl, hbh⟩
      have HCQ := hid (HCP.out.below hbh)
      have HBh := hid (za_ HBW.out (za_ HBg.out hbh))
      clear hbh
      go_upto_block 4 with (fail)
      go_cut [] (fun wx => ∃ (cc : Md), Hid (CpM w.heap.size wx m m f.p f cp cc Sc 640 1280) /\ Hid (Below w.heap.size w wx))
      case first =>
       go_wp2_with fail
       go_loopw [16] (fun i wr => ∃ (k : Nat) (cc : Md), k <= 40 /\ k <= n2 /\ i = .int .i64 (k : Int) /\ Hid (CpM w.heap.size wr m m f.p f cp cc Sc 640 (640 + 16 * k)) /\ Hid (Below w.heap.size w wr)) (fun i _ => n2 - (intOf i).toNat)
       case atStart => exact ⟨0, cp, by omega, by omega, rfl, HCQ, HBh⟩
       case round =>
        obtain ⟨k, cc, hk1, hk2, rfl, HC4, HBR⟩ := hrel
        by_cases hlt : k < n2
        ·have d1 : (k : Int) < (n2 : Int) := by omega
         by_cases h40 : k < 40
         ·have d2 : (k : Int) < 40 := by omega
          obtain ⟨x, hx⟩ : ∃ x, L2[k]? = some x := ⟨_, List.getElem?_eq_getElem (by rw [HL2.out]; exact hlt)⟩
          obtain ⟨b9, o9, e9, ⟨q0, q1, q2⟩, ht9⟩ := HA2.out wr HBR.out k x hx
          cases e9
          have hxm := HMM2.out x (List.mem_of_getElem? hx)
          have HKEY := hid (ob4 HC4.out Xt0 x (fun W' o => by obtain ⟨_, _, _, _, ht⟩ := HA2.out W' (Off.below HBR.out o HBR.out.size (fun q hq => HC4.out.tw.ge q hq)) k x hx; exact ht) (by have := ht9.ol; have := hxm.1; omega) (fun o ho => by have := (hxm.2 o ho).2.2.1; omega))
          clear hx hxm ht9
          go_wp2_with fail
          refine HKEY.out.mono ?_; clear HKEY; rintro r w9 ⟨⟨v, rfl⟩, ⟨c9, hc9⟩, ho9⟩
          have HC9 := hid hc9
          have HB9 := hid (Off.below HBR.out ho9 HBR.out.size (fun q hq => HC4.out.tw.ge q hq))
          clear hc9 ho9 q0 q1 q2
          go_wp2_with fail
          go_roundw
          case rel => exact ⟨k + 1, c9, by omega, by omega, by go_num, hid (by have h := HC9.out; rw [show 640 + 16 * k + 16 = 640 + 16 * (k + 1) by omega] at h; exact h), HB9⟩
          case measure => simp [intOf]; omega
         ·have d2 : ¬ (k : Int) < 40 := by omega
          exact Xb79
        ·have d1 : ¬ (k : Int) < (n2 : Int) := by omega
         exact Xb79
      case rest =>
       obtain ⟨cc, HC4, HBR⟩ := hcut
       go_wp2_with fail
       refine (oa6 HC4.out.tw Xt0 0).mono ?_; rintro r wk ⟨rfl, hbk⟩
       have HBK := hid (za_ HBR.out hbk)
       clear hbk
       go_wp2_with fail
       refine (xM_ _).mono ?_; rintro r w8 ⟨rfl, hb8⟩
       have HB8 := hid (za_ HBK.out hb8)
       exact Xb87
end
section
open Go.Deep Go.Joins
theorem IsRow.byt {w : World} {a : Option Addr} {len cap : Nat} {zs : List Int} (h : IsRow .u8 w a len cap zs) : Byt (zs.take len) := by
 rcases h with ⟨_, rfl, _, rfl⟩ | ⟨y, rfl, hlc, _, hz, hcell, hw⟩
 ·intro x hx; simp at hx
 ·intro x hx
  have := hw x (List.mem_of_mem_take hx)
  simpa [Lit.wf, IntKind.min, IntKind.max, IntKind.signed, IntKind.bits] using this
section
variable {H : Type} {enc : TypeId × Value -> H} {w : World} {base : Nat} {held : Bool} {d : DataW H} {ps : List MemPlace}
theorem open_row {a : Option Addr} {len cap : Nat} (hd : DataW.Trod enc prog w base (fun _ => true) held 50 (.slice a len cap) d ps) :
  ∃ R : List P1, R.length = len /\ RdR w a R /\ ∀ p ∈ R, Byt p.bs := by
 obtain ⟨fuel, hf⟩ := hd
 rcases Deep.open_int_rows underlying50 underlying42 underlying5 Xt3 Xt3 hf with ⟨hcs, _⟩ | ⟨x, l, c, A, L, C, Z, hcs, hb, hl, hm, hx, hr⟩
 ·simp [Value.cells] at hcs
  obtain ⟨rfl, rfl, rfl⟩ := hcs
  exact ⟨[], rfl, RdR.nil _ _, fun p hp => by simp at hp⟩
 ·simp [Value.cells] at hcs
  obtain ⟨rfl, rfl, rfl⟩ := hcs
  refine ⟨(List.range len).map fun r => ⟨A r, C r, (Z r).take (L r)⟩, by simp, fun k p hp => ?_, fun p hp => ?_⟩
  ·have hk : k < len := by have := (List.getElem?_eq_some_iff.1 hp).1; simpa using this
   have hp' : p = ⟨A k, C k, (Z k).take (L k)⟩ := by
    simp [hk] at hp
    exact hp.symm
   subst hp'
   obtain ⟨hc, hLC, hCm, hZ, hwf, hnone, hsome⟩ := hr k Xt0
   obtain ⟨b, off, spot⟩ := x
   obtain ⟨hc0, _⟩ := hr 0 Xt0
   have hspot : spot = none := by simpa [Addr.add] using World.cell?_spot hc0
   subst hspot
   rw [zG_] at hc
   have hlen : ((Z k).take (L k)).length = L k := by rw [List.length_take, hZ]; omega
   refine ⟨b, off, rfl, ?_, ⟨fun j hj => ?_, fun e => ?_, by simp only; rw [hlen]; exact hLC⟩⟩
   ·rw [hc, P1.v, hlen]
   ·simp only at hj ⊢
    rw [hlen] at hj
    cases hA : A k with
    | none => have := hnone hA; omega
    | some a' =>
     obtain ⟨_, hcell⟩ := hsome a' hA
     obtain ⟨b2, o2, spot2⟩ := a'
     have hc2 := hcell 0 Xt0
     have hspot2 : spot2 = none := by simpa [Addr.add] using World.cell?_spot hc2
     subst hspot2
     refine ⟨b2, o2, rfl, ?_⟩
     have := hcell j Xt0
     rw [zG_] at this
     rw [this]
     simp [List.getD, List.getElem?_take, hj]
   ·simp only at e ⊢
    have := hnone e
    exact ⟨List.length_eq_zero_iff.1 (by rw [hlen]; omega), this⟩
  ·obtain ⟨r, hr2, rfl⟩ := List.mem_map.1 hp
   have hrl : r < len := by simpa using hr2
   obtain ⟨_, _, _, _, hwf, _⟩ := hr r Xt0
   intro y hy
   have := hwf y (List.mem_of_mem_take hy)
   simpa [Lit.wf, IntKind.min, IntKind.max, IntKind.signed, IntKind.bits] using this
end
theorem od3 {α : Type} {p : Nat -> α -> Prop} : ∀ m, (∀ i, i < m -> ∃ x, p i x) -> ∃ L : List α, L.length = m /\ ∀ i x, L[i]? = some x -> p i x
 | 0, _ => ⟨[], rfl, fun i x h => by simp at h⟩
 | m + 1, h => by
  obtain ⟨L, hl, hp⟩ := od3 m fun i hi => h i Xt0
  obtain ⟨x, hx⟩ := h m Xt0
  refine ⟨L ++ [x], by simp [hl], fun i y hy => ?_⟩
  by_cases e : i < L.length
  ·rw [List.getElem?_append_left e] at hy
   exact hp i y hy
  ·have hi := (List.getElem?_eq_some_iff.1 hy).1
   simp at hi
   obtain rfl : i = m := by omega
   rw [List.getElem?_append_right Xt0] at hy
   simp [hl] at hy
   rw [← hy]; exact hx
section
variable {H : Type} {enc : TypeId × Value -> H} {w : World} {base : Nat} {held : Bool} {m : Nat} {u : Value} {cs : List Value} {x : DataW H × List MemPlace}
theorem qM_ {P : Program} {e : TypeId} {d : DataW H} {n : Nat} (hn : n ∈ d.weights P e) : ∀ {l : List (DataW H)}, d ∈ l -> n ∈ DataW.weightsAll P e l
 | [], h => by simp at h
 | x :: r, h => by
  simp only [DataW.weightsAll, List.mem_append]
  rcases List.mem_cons.1 h with rfl | h
  ·exact .inl hn
  ·exact .inr (qM_ hn h)
theorem jT_ {t e : TypeId} (ht : prog.underlying t = some (.slice e)) (hb : 1 <= prog.bytesOf e) {len k : Nat} {D : Nat -> DataW H} (hsz : ∀ n ∈ (DataW.slice ((List.range len).map D) ((List.range k).map fun j => D (len + j))).weights prog t, n <= reachBytes) :
  len <= 140737488355328 /\ ∀ i, i < len -> ∀ n ∈ (D i).weights prog e, n <= reachBytes := by
 constructor
 ·have h1 := hsz ((((List.range len).map D).length + ((List.range k).map fun j => D (len + j)).length) * prog.bytesOf e) (by simp only [DataW.weights, ht]; exact List.mem_cons_self ..)
  simp only [List.length_map, List.length_range, reachBytes] at h1
  have : (len + k) * 1 <= (len + k) * prog.bytesOf e := Nat.mul_le_mul_left _ hb
  omega
 ·intro i hi n hn
  refine hsz n ?_
  simp only [DataW.weights, ht, List.mem_cons, List.mem_append]
  exact .inr (.inl (qM_ hn (List.mem_map.2 ⟨i, List.mem_range.2 hi, rfl⟩)))
theorem oc1 (h : DataW.trod enc prog w base (fun _ => true) held m 42 [u] = some x) :
  ∃ (a : Option Addr) (L : List Int) (n c : Nat), u = .slice a n c /\ L.length = n /\ Byt L /\ Ls .u8 w a c L := by
 rcases open_ints underlying42 underlying5 Xt3 h with ⟨hcs, _⟩ | ⟨y, l, c, zs, hcs, _, hl, hm, hz, hx, hcell, hwz⟩
 ·simp only [List.cons.injEq, and_true] at hcs
  exact ⟨none, [], 0, 0, hcs, rfl, fun x hx => by simp at hx, Ls.nul _ _⟩
 ·simp only [List.cons.injEq, and_true] at hcs
  have hr : IsRow .u8 w (some y) l c zs := .inr ⟨_, rfl, hl, hm, by simpa using hz, hcell, hwz⟩
  exact ⟨some y, zs.take l, l, c, hcs, hr.ls.2, hr.byt, hr.ls.1⟩
theorem oc2 (h : DataW.trod enc prog w base (fun _ => true) held m 50 [u] = some x) (hsz : ∀ n ∈ x.1.weights prog 50, n <= reachBytes) :
  ∃ (a : Option Addr) (R : List P1) (n c : Nat), u = .slice a n c /\ R.length = n /\ RdR w a R /\ (∀ p ∈ R, Byt p.bs) /\ n <= 140737488355328 := by
 rcases open_slice underlying50 h with ⟨hcs, _⟩ | ⟨y, l, c, k, _, D, Pl, hcs, _, hl, hm, _, rfl, _⟩
 ·simp only [List.cons.injEq, and_true] at hcs
  subst hcs
  obtain ⟨R, h1, h2, h3⟩ := open_row (d := x.1) (ps := x.2) ⟨m, by simpa [Value.cells] using h⟩
  exact ⟨none, R, 0, 0, rfl, h1, h2, h3, Nat.zero_le _⟩
 ·simp only [List.cons.injEq, and_true] at hcs
  subst hcs
  obtain ⟨R, h1, h2, h3⟩ := open_row ⟨m, by simpa [Value.cells] using h⟩
  exact ⟨some y, R, l, c, rfl, h1, h2, h3, (jT_ underlying50 (of_decide_eq_true Xt3) hsz).1⟩
theorem c1_74 : prog.cellsOf 74 = 7 := by kernel_rfl
theorem c1_38 : prog.cellsOf 38 = 3 := by kernel_rfl
theorem c1_36 : prog.cellsOf 36 = 1 := by kernel_rfl
theorem c1_72 : prog.cellsOf 72 = 1 := by kernel_rfl
theorem c1_42 : prog.cellsOf 42 = 1 := by kernel_rfl
theorem c1_50 : prog.cellsOf 50 = 1 := by kernel_rfl
theorem c1_3 : prog.cellsOf 3 = 1 := by kernel_rfl
theorem c1_4 : prog.cellsOf 4 = 1 := by kernel_rfl
theorem oc3 (h : DataW.trod enc prog w base (fun _ => true) held m 74 cs = some x) (hlen : cs.length = 7) (hsz : ∀ n ∈ x.1.weights prog 74, n <= reachBytes) :
  ∃ o : zj_, cs = [.int .i64 o.k, .int .i64 o.t, .int .i64 o.i, .slice o.ka o.kn o.kc, .slice o.ta o.tn o.tc, .int .i64 o.m, .slice o.ra o.rn o.rc] /\ zy_ w o /\ o.rn <= 140737488355328 := by
 match cs, hlen with
 | [u0, u1, u2, u3, u4, u5, u6], _ =>
  obtain ⟨xs, m2, _, hx, _, hl2, hel⟩ := DataW.trod_struct underlying74 h
  have g0 : DataW.trod enc prog w base (fun _ => true) held m2 72 (List.take (prog.cellsOf 72) (List.drop 0 [u0, u1, u2, u3, u4, u5, u6])) = xs[0]? := hel 0 _ rfl
  have g1 : DataW.trod enc prog w base (fun _ => true) held m2 3 (List.take (prog.cellsOf 3) (List.drop 1 [u0, u1, u2, u3, u4, u5, u6])) = xs[1]? := hel 1 _ rfl
  have g2 : DataW.trod enc prog w base (fun _ => true) held m2 3 (List.take (prog.cellsOf 3) (List.drop 2 [u0, u1, u2, u3, u4, u5, u6])) = xs[2]? := hel 2 _ rfl
  have g3 : DataW.trod enc prog w base (fun _ => true) held m2 42 (List.take (prog.cellsOf 42) (List.drop 3 [u0, u1, u2, u3, u4, u5, u6])) = xs[3]? := hel 3 _ rfl
  have g4 : DataW.trod enc prog w base (fun _ => true) held m2 42 (List.take (prog.cellsOf 42) (List.drop 4 [u0, u1, u2, u3, u4, u5, u6])) = xs[4]? := hel 4 _ rfl
  have g5 : DataW.trod enc prog w base (fun _ => true) held m2 3 (List.take (prog.cellsOf 3) (List.drop 5 [u0, u1, u2, u3, u4, u5, u6])) = xs[5]? := hel 5 _ rfl
  have g6 : DataW.trod enc prog w base (fun _ => true) held m2 50 (List.take (prog.cellsOf 50) (List.drop 6 [u0, u1, u2, u3, u4, u5, u6])) = xs[6]? := hel 6 _ rfl
  rw [c1_72] at g0
  rw [c1_3] at g1 g2 g5
  rw [c1_42] at g3 g4
  rw [c1_50] at g6
  simp only [List.drop, List.take] at g0 g1 g2 g3 g4 g5 g6
  match xs, hl2 with
  | [y0, y1, y2, y3, y4, y5, y6], _ =>
   have hx1 : x.1 = .agg [y0.1, y1.1, y2.1, y3.1, y4.1, y5.1, y6.1] := by rw [hx]; rfl
   rw [hx1] at hsz
   obtain ⟨z0, e0, _⟩ := DataW.trod_int underlying72 g0
   obtain ⟨z1, e1, _⟩ := DataW.trod_int underlying3 g1
   obtain ⟨z2, e2, _⟩ := DataW.trod_int underlying3 g2
   obtain ⟨z5, e5, _⟩ := DataW.trod_int underlying3 g5
   obtain ⟨a3, L3, n3, c3, e3, l3, b3, s3⟩ := oc1 g3
   obtain ⟨a4, L4, n4, c4, e4, l4, b4, s4⟩ := oc1 g4
   obtain ⟨a6, R6, n6, c6, e6, l6, r6, b6, k6⟩ := oc2 g6 (fun n hn => hsz n (by
    have := DataW.weights_mem_each (P := prog) (ts := [72, 3, 3, 42, 42, 3, 50]) (ds := [y0.1, y1.1, y2.1, y3.1, y4.1, y5.1, y6.1]) (j := 6) (t := 50) rfl rfl n hn
    simpa [DataW.weights, underlying74] using this))
   simp only [List.cons.injEq, and_true] at e0 e1 e2 e5
   exact ⟨⟨z0, z1, z2, a3, n3, c3, L3, a4, n4, c4, L4, z5, a6, n6, c6, R6⟩, by rw [e0, e1, e2, e3, e4, e5, e6], ⟨s3, l3, b3, s4, l4, b4, r6, l6, b6⟩, k6⟩
theorem oc0 (h : DataW.trod enc prog w base (fun _ => true) held m 36 [u] = some x) (hsz : ∀ n ∈ x.1.weights prog 36, n <= reachBytes) :
  ∃ (a : Option Addr) (L : List zj_) (n c : Nat), u = .slice a n c /\ L.length = n /\ OpsR w a L /\ n <= 140737488355328 /\ ∀ o ∈ L, o.rn <= 140737488355328 := by
 rcases open_slice underlying36 h with ⟨hcs, _⟩ | ⟨y, l, c, k, m2, D, Pl, hcs, _, hl, hm, hk, rfl, hi⟩
 ·exact Xb73
 ·simp only [List.cons.injEq, and_true] at hcs
  subst hcs
  have hkl : l <= k := by rw [hk]; split <;> omega
  obtain ⟨sl, sd⟩ := jT_ underlying36 (of_decide_eq_true Xt3) hsz
  obtain ⟨L, hL, hp⟩ := od3 (p := fun i (o : zj_) => (∀ j v, [Value.int .i64 o.k, .int .i64 o.t, .int .i64 o.i, .slice o.ka o.kn o.kc, .slice o.ta o.tn o.tc, .int .i64 o.m, .slice o.ra o.rn o.rc][j]? = some v -> w.cell? ((y.add (i * 7)).add j) = some v) /\ zy_ w o /\ o.rn <= 140737488355328) l (fun i him => by
   obtain ⟨cs', hc, ht⟩ := hi i Xt0
   rw [c1_74] at hc
   obtain ⟨_, hcl, hat⟩ := World.cells?_some hc
   obtain ⟨o, ho, hca, hrn⟩ := oc3 ht hcl (sd i him)
   refine ⟨o, fun j v hj => ?_, hca, hrn⟩
   have hj7 : j < 7 := by have := (List.getElem?_eq_some_iff.1 hj).1; simpa using this
   rw [hat j hj7, ho]; exact hj)
  refine ⟨some y, L, l, c, rfl, hL, fun i o ho => ?_, sl, fun o ho => ?_⟩
  ·obtain ⟨b, off, spot⟩ := y
   obtain ⟨h0, hca, _⟩ := hp i o ho
   have hil : i < L.length := (List.getElem?_eq_some_iff.1 ho).1
   obtain ⟨z0, _, _⟩ := hp 0 L[0] (List.getElem?_eq_getElem Xt0)
   have hspot : spot = none := by simpa [Addr.add] using World.cell?_spot (z0 0 _ rfl)
   subst hspot
   have q : ∀ j v, [Value.int .i64 o.k, .int .i64 o.t, .int .i64 o.i, .slice o.ka o.kn o.kc, .slice o.ta o.tn o.tc, .int .i64 o.m, .slice o.ra o.rn o.rc][j]? = some v -> w.cell? ⟨b, off + i * 7 + j, none⟩ = some v := fun j v hj => by
    have := h0 j v hj
    rwa [zG_, zG_] at this
   exact ⟨b, off, rfl, ⟨q 0 _ rfl, q 1 _ rfl, q 2 _ rfl, q 3 _ rfl, q 4 _ rfl, q 5 _ rfl, q 6 _ rfl⟩, hca⟩
  ·obtain ⟨i, hi'⟩ := List.mem_iff_getElem?.1 ho
   exact (hp i o hi').2.2
theorem oc4 (h : DataW.trod enc prog w base (fun _ => true) held m 38 cs = some x) (hlen : cs.length = 3) (hsz : ∀ n ∈ x.1.weights prog 38, n <= reachBytes) :
  ∃ t : zW_, cs = [.slice t.oa t.on t.oc, .bool t.sn, .bool t.ab] /\ zM_ w t /\ TxG t := by
 match cs, hlen with
 | [u0, u1, u2], _ =>
  obtain ⟨xs, m2, _, hx, _, hl2, hel⟩ := DataW.trod_struct underlying38 h
  have g0 : DataW.trod enc prog w base (fun _ => true) held m2 36 (List.take (prog.cellsOf 36) (List.drop 0 [u0, u1, u2])) = xs[0]? := hel 0 _ rfl
  have g1 : DataW.trod enc prog w base (fun _ => true) held m2 4 (List.take (prog.cellsOf 4) (List.drop 1 [u0, u1, u2])) = xs[1]? := hel 1 _ rfl
  have g2 : DataW.trod enc prog w base (fun _ => true) held m2 4 (List.take (prog.cellsOf 4) (List.drop 2 [u0, u1, u2])) = xs[2]? := hel 2 _ rfl
  rw [c1_36] at g0
  rw [c1_4] at g1 g2
  simp only [List.drop, List.take] at g0 g1 g2
  match xs, hl2 with
  | [y0, y1, y2], _ =>
   have hx1 : x.1 = .agg [y0.1, y1.1, y2.1] := by rw [hx]; rfl
   rw [hx1] at hsz
   obtain ⟨a, L, n, c, e0, l0, r0, k0, o0⟩ := oc0 g0 (fun n hn => hsz n (by
    have := DataW.weights_mem_each (P := prog) (ts := [36, 4, 4]) (ds := [y0.1, y1.1, y2.1]) (j := 0) (t := 36) rfl rfl n hn
    simpa [DataW.weights, underlying38] using this))
   obtain ⟨z1, e1, _⟩ := DataW.trod_bool underlying4 g1
   obtain ⟨z2, e2, _⟩ := DataW.trod_bool underlying4 g2
   simp only [List.cons.injEq, and_true] at e1 e2
   exact ⟨⟨a, n, c, L, z1, z2⟩, by rw [e0, e1, e2], ⟨r0, l0⟩, ⟨k0, o0⟩⟩
theorem ob_ (h : DataW.trod enc prog w base (fun _ => true) held m 25 [u] = some x) (hsz : ∀ n ∈ x.1.weights prog 25, n <= reachBytes) :
  ∃ (a : Option Addr) (L : List zW_) (n c : Nat), u = .slice a n c /\ L.length = n /\ TxsR w a L /\ n <= 140737488355328 /\ ∀ t ∈ L, TxG t := by
 rcases open_slice underlying25 h with ⟨hcs, _⟩ | ⟨y, l, c, k, m2, D, Pl, hcs, _, hl, hm, hk, rfl, hi⟩
 ·exact Xb73
 ·simp only [List.cons.injEq, and_true] at hcs
  subst hcs
  have hkl : l <= k := by rw [hk]; split <;> omega
  obtain ⟨sl, sd⟩ := jT_ underlying25 (of_decide_eq_true Xt3) hsz
  obtain ⟨L, hL, hp⟩ := od3 (p := fun i (t : zW_) => (∀ j v, [Value.slice t.oa t.on t.oc, .bool t.sn, .bool t.ab][j]? = some v -> w.cell? ((y.add (i * 3)).add j) = some v) /\ zM_ w t /\ TxG t) l (fun i him => by
   obtain ⟨cs', hc, ht⟩ := hi i Xt0
   rw [c1_38] at hc
   obtain ⟨_, hcl, hat⟩ := World.cells?_some hc
   obtain ⟨t, ho, hca, hrn⟩ := oc4 ht hcl (sd i him)
   refine ⟨t, fun j v hj => ?_, hca, hrn⟩
   have hj7 : j < 3 := by have := (List.getElem?_eq_some_iff.1 hj).1; simpa using this
   rw [hat j hj7, ho]; exact hj)
  refine ⟨some y, L, l, c, rfl, hL, fun i t ho => ?_, sl, fun t ho => ?_⟩
  ·obtain ⟨b, off, spot⟩ := y
   obtain ⟨h0, hca, _⟩ := hp i t ho
   have hil : i < L.length := (List.getElem?_eq_some_iff.1 ho).1
   obtain ⟨z0, _, _⟩ := hp 0 L[0] (List.getElem?_eq_getElem Xt0)
   have hspot : spot = none := by simpa [Addr.add] using World.cell?_spot (z0 0 _ rfl)
   subst hspot
   have q : ∀ j v, [Value.slice t.oa t.on t.oc, .bool t.sn, .bool t.ab][j]? = some v -> w.cell? ⟨b, off + i * 3 + j, none⟩ = some v := fun j v hj => by
    have := h0 j v hj
    rwa [zG_, zG_] at this
   exact ⟨b, off, rfl, ⟨q 0 _ rfl, q 1 _ rfl, q 2 _ rfl⟩, hca⟩
  ·obtain ⟨i, hi'⟩ := List.mem_iff_getElem?.1 ho
   exact (hp i t hi').2.2
end
section
variable {H : Type} {enc : TypeId × Value -> H} {w : World} {base b0 : Nat} {held : Bool} {r : Reach} {v : Value} {d : DataW H} {ps : List MemPlace}
theorem od4 {m : Nat} {cs : List Value} {x : DataW H × List MemPlace} (h : DataW.trod enc prog w base (fun _ => true) held m 24 cs = some x) (hlen : cs.length = 7) :
  ∃ j : Job, cs = [.int .i64 j.w, .int .i64 j.l, .int .i64 j.d, .int .i64 j.c, .int .i64 j.k, .int .i64 j.e, .slice j.a j.n j.cap] /\ Ls .i64 w j.a j.cap j.T /\ j.T.length = j.n := by
 match cs, hlen with
 | [u0, u1, u2, u3, u4, u5, u6], _ =>
  obtain ⟨xs, m2, _, hx, _, hl2, hel⟩ := DataW.trod_struct underlying24 h
  have c22 : prog.cellsOf 22 = 1 := by kernel_rfl
  have g0 : DataW.trod enc prog w base (fun _ => true) held m2 3 (List.take (prog.cellsOf 3) (List.drop 0 [u0, u1, u2, u3, u4, u5, u6])) = xs[0]? := hel 0 _ rfl
  have g1 : DataW.trod enc prog w base (fun _ => true) held m2 3 (List.take (prog.cellsOf 3) (List.drop 1 [u0, u1, u2, u3, u4, u5, u6])) = xs[1]? := hel 1 _ rfl
  have g2 : DataW.trod enc prog w base (fun _ => true) held m2 3 (List.take (prog.cellsOf 3) (List.drop 2 [u0, u1, u2, u3, u4, u5, u6])) = xs[2]? := hel 2 _ rfl
  have g3 : DataW.trod enc prog w base (fun _ => true) held m2 3 (List.take (prog.cellsOf 3) (List.drop 3 [u0, u1, u2, u3, u4, u5, u6])) = xs[3]? := hel 3 _ rfl
  have g4 : DataW.trod enc prog w base (fun _ => true) held m2 3 (List.take (prog.cellsOf 3) (List.drop 4 [u0, u1, u2, u3, u4, u5, u6])) = xs[4]? := hel 4 _ rfl
  have g5 : DataW.trod enc prog w base (fun _ => true) held m2 3 (List.take (prog.cellsOf 3) (List.drop 5 [u0, u1, u2, u3, u4, u5, u6])) = xs[5]? := hel 5 _ rfl
  have g6 : DataW.trod enc prog w base (fun _ => true) held m2 22 (List.take (prog.cellsOf 22) (List.drop 6 [u0, u1, u2, u3, u4, u5, u6])) = xs[6]? := hel 6 _ rfl
  rw [c1_3] at g0 g1 g2 g3 g4 g5
  rw [c22] at g6
  simp only [List.drop, List.take] at g0 g1 g2 g3 g4 g5 g6
  match xs, hl2 with
  | [y0, y1, y2, y3, y4, y5, y6], _ =>
   obtain ⟨x0, e0, _⟩ := DataW.trod_int underlying3 g0
   obtain ⟨x1, e1, _⟩ := DataW.trod_int underlying3 g1
   obtain ⟨x2, e2, _⟩ := DataW.trod_int underlying3 g2
   obtain ⟨x3, e3, _⟩ := DataW.trod_int underlying3 g3
   obtain ⟨x4, e4, _⟩ := DataW.trod_int underlying3 g4
   obtain ⟨x5, e5, _⟩ := DataW.trod_int underlying3 g5
   simp only [List.cons.injEq, and_true] at e0 e1 e2 e3 e4 e5
   subst e0 e1 e2 e3 e4 e5
   rcases open_ints underlying22 underlying3 Xt3 g6 with ⟨hcs, _⟩ | ⟨x, l, c, zs, hcs, _, hl, hm, hz, _, hcell, hwz⟩
   ·simp at hcs
    subst hcs
    exact ⟨⟨x0, x1, x2, x3, x4, x5, none, 0, 0, []⟩, rfl, Ls.nul _ _, rfl⟩
   ·simp at hcs
    subst hcs
    have hr : IsRow .i64 w (some x) l c zs := .inr ⟨_, rfl, hl, hm, by simpa using hz, hcell, hwz⟩
    exact ⟨⟨x0, x1, x2, x3, x4, x5, some x, l, c, zs.take l⟩, rfl, hr.ls.1, hr.ls.2⟩
theorem oc5 (hval : Value.okWide prog w r b0 55 v) (hd : DataW.Trod enc prog w base (fun _ => true) held 55 v d ps) :
  ∃ j k : Job, v = .agg #[.int .i64 j.w, .int .i64 j.l, .int .i64 j.d, .int .i64 j.c, .int .i64 j.k, .int .i64 j.e, .slice j.a j.n j.cap, .int .i64 k.w, .int .i64 k.l, .int .i64 k.d, .int .i64 k.c, .int .i64 k.k, .int .i64 k.e, .slice k.a k.n k.cap] /\ (Ls .i64 w j.a j.cap j.T /\ j.T.length = j.n) /\ Ls .i64 w k.a k.cap k.T /\ k.T.length = k.n := by
 obtain ⟨cs, rfl, hsz2, _⟩ : ∃ cs, v = .agg cs /\ cs.size = prog.cellsOf 55 /\ Row.okWide prog w r b0 55 cs := by
  simpa [Value.okWide, underlying55] using hval
 have c55 : prog.cellsOf 55 = 14 := by kernel_rfl
 have c24 : prog.cellsOf 24 = 7 := by kernel_rfl
 rw [c55] at hsz2
 obtain ⟨l⟩ := cs
 match l, hsz2 with
 | [u0, u1, u2, u3, u4, u5, u6, v0, v1, v2, v3, v4, v5, v6], _ =>
  obtain ⟨fuel, hf⟩ := hd
  obtain ⟨xs, m, _, hxx, _, _, hel⟩ := DataW.trod_array underlying55 hf
  have k0 := hel 0 Xt0; have k1 := hel 1 Xt0
  rw [c24] at k0 k1
  simp only [Value.cells, List.drop, List.take, Nat.zero_mul, Nat.one_mul] at k0 k1
  match xs, ‹xs.length = 2› with
  | [x0, x1], _ =>
   obtain ⟨j, e0, l0, n0⟩ := od4 k0 rfl
   obtain ⟨k, e1, l1, n1⟩ := od4 k1 rfl
   simp only [List.cons.injEq, and_true] at e0 e1
   obtain ⟨rfl, rfl, rfl, rfl, rfl, rfl, rfl⟩ := e0
   obtain ⟨rfl, rfl, rfl, rfl, rfl, rfl, rfl⟩ := e1
   exact ⟨j, k, rfl, ⟨l0, n0⟩, l1, n1⟩
end
end
end Go.Proofs.YthmofoldmdafoaaGreat
namespace Go.Proofs.YthmofoldmdafoaaGreat.modelCopiesP
open Go.Lib (hid)
open Go.Proofs.Tryz
open Go.ChangeShapes Go.WideShapes Go.ChangeAt Go.RowKit
open Go.ChangeMaps (open_string shut_string)
theorem own : ownKnob prog.godebug = none := by kernel_rfl
theorem laidOut : laidOutB prog = true := by kernel_rfl
theorem lifted (os : Os) (started : os.Started) (H : Type) (enc : TypeId × Value -> H) :
  ReturnsInHanded {} checked os 5 .any (Rows.modelCopiesSpec.pre6 enc prog f5 Rows.modelCopiesRow.domain false) (Rows.modelCopiesSpec.post enc prog f5 false true false false) := by
 refine returnsInHanded_of_change_sized (C := checked) own started Xt3 func5
  (ChangeSpec.witness6 (enc := enc) (C := checked) false ⟨#[], #[.agg #[.int .i64 0, .int .i64 0, .int .i64 0, .int .i64 0, .int .i64 0, .int .i64 0, .slice none 0 0, .int .i64 0, .int .i64 0, .int .i64 0, .int .i64 0, .int .i64 0, .int .i64 0, .slice none 0 0], .slice none 0 0, .slice none 0 0], []⟩ 12 Xt3 Xt3 Xt3 Xt3) ?_
 intro W base args ds gs before hval0 hW hcnd hsz0 _
 have hsz : (DataW.weightsEach prog (f5.params.toList ++ Rows.modelCopiesSpec.plain.varTypes prog) (ds ++ gs)).all (· <= reachBytes) = true := hsz0
 clear hsz0
 have hval : ∀ (j : Nat) t v, f5.params[j]? = some t -> args[j]? = some v -> Value.okWide prog W .any base t v := hval0
 have hW' := hW
 obtain ⟨p, q, hA0, hV, rfl, hfz, hnd⟩ := hW
 have hA : DataW.TrodAll enc prog W 0 (fun _ => true) true f5.params.toList args.toList ds p := hA0
 rw [params5] at hA hval hsz
 obtain ⟨v0, vs0, d0, ds0, p0, q0, hargs, rfl, rfl, h0, r0⟩ := trodAll_cons hA
 obtain ⟨v1, vs1, d1, ds1, p1, q1, rfl, rfl, rfl, h1, r1⟩ := trodAll_cons r0
 obtain ⟨v2, vs2, d2, ds2, p2, q2, rfl, rfl, rfl, h2, r2⟩ := trodAll_cons r1
 obtain ⟨rfl, rfl, rfl⟩ := trodAll_nil r2
 obtain rfl : args = #[v0, v1, v2] := by cases args; simp_all
 obtain ⟨rfl, rfl⟩ := trodVars_none hV
 have k0 := h0
 have lt0 : ∀ x ∈ p0, x.block < W.heap.size := by obtain ⟨m, hm⟩ := k0; exact DataW.trod_lt m _ _ _ hm
 obtain ⟨J0, K0, rfl, ⟨LJ0, NJ0⟩, LK0, NK0⟩ := oc5 (hval 0 55 v0 rfl rfl) h0
 have k1 := h1
 have lt1 : ∀ x ∈ p1, x.block < W.heap.size := by obtain ⟨m, hm⟩ := k1; exact DataW.trod_lt m _ _ _ hm
 have all : ∀ n ∈ DataW.weightsEach prog ([55, 25, 25] ++ Rows.modelCopiesSpec.plain.varTypes prog) ([d0, d1, d2] ++ []), n <= reachBytes := fun n hn => by simpa using List.all_eq_true.1 hsz n hn
 obtain ⟨a1, n1, c1, rfl⟩ := okWide_slice underlying25 (hval 1 25 v1 rfl rfl)
 obtain ⟨L1, hL1, hR1, hN1, hG1⟩ : ∃ L : List zW_, L.length = n1 /\ TxsR W a1 L /\ n1 <= 140737488355328 /\ ∀ s ∈ L, TxG s := by
  obtain ⟨fuel, hf⟩ := h1
  obtain ⟨a, L, n, c, e, h1, h2, h3, h4⟩ := ob_ (by simpa [Value.cells] using hf) (fun n hn => all n (DataW.weights_mem_each (j := 1) (t := 25) rfl rfl n hn))
  exact Xb112
 have k2 := h2
 have lt2 : ∀ x ∈ p2, x.block < W.heap.size := by obtain ⟨m, hm⟩ := k2; exact DataW.trod_lt m _ _ _ hm
 obtain ⟨a2, n2, c2, rfl⟩ := okWide_slice underlying25 (hval 2 25 v2 rfl rfl)
 obtain ⟨L2, hL2, hR2, hN2, hG2⟩ : ∃ L : List zW_, L.length = n2 /\ TxsR W a2 L /\ n2 <= 140737488355328 /\ ∀ s ∈ L, TxG s := by
  obtain ⟨fuel, hf⟩ := h2
  obtain ⟨a, L, n, c, e, h1, h2, h3, h4⟩ := ob_ (by simpa [Value.cells] using hf) (fun n hn => all n (DataW.weights_mem_each (j := 2) (t := 25) rfl rfl n hn))
  exact Xb112
 clear hA0 hval0
 refine (ob8 J0 K0 a1 L1 n1 c1 hL1 hN1 hG1 a2 L2 n2 c2 hL2 hN2 hG2 W LJ0 NJ0 LK0 NK0 hR1 hR2).mono fun e W' ⟨he, bel⟩ => ?_
 subst he
 exact ⟨_, rfl, _, _, _, [], _, [], hW', trodAll_mk1 (shut_bool underlying4 _), (trodAll_cons_mk (Below.trod laidOut Xt3 (of_decide_eq_true Xt3) k0 bel lt0) (trodAll_cons_mk (Below.trod laidOut Xt3 (of_decide_eq_true Xt3) k1 bel lt1) (trodAll_cons_mk (Below.trod laidOut Xt3 (of_decide_eq_true Xt3) k2 bel lt2) trodAll_mk0))), rfl, bel.frame _, fun h => by cases h⟩
theorem over : Rows.modelCopiesRow.holds Tryz.pinned (OpenSpec.ofChange Rows.modelCopiesSpec) :=
 OpenClaim.holds_of_wide 5 f5 rfl rfl rfl rfl rfl rfl rfl ⟨rfl, rfl, rfl, rfl, rfl⟩ rfl rfl rfl rfl rfl Xt3 func5 Xt3
  (of_decide_eq_true Xt3) (by unfold Func.isWrapper; first | (rw [if_pos (by decide +kernel)]; kernel_rfl) | (rw [if_neg (by decide +kernel)]; exact ⟨rfl, rfl⟩))
  (fun os started H enc _ => lifted os started H enc)
theorem proved : Rows.ModelCopiesSaid := over
end Go.Proofs.YthmofoldmdafoaaGreat.modelCopiesP
