/- Part of the proof that ModelApplies holds for every input: writes that are done on tables leave them as the document says. Part 2. -/
import Derived.Test.YthmofoldmdafoaaGreatSva
set_option linter.unusedVariables false
set_option linter.unusedSimpArgs false
set_option maxRecDepth 100000
set_option maxHeartbeats 4000000
namespace Go.Proofs.YthmofoldmdafoaaGreat
open Go.ChangeShapes Go.WideShapes Go.ChangeAt Go.RowKit
open Go.Lib (hid)
open Go.Proofs.Tryz
def ClB (L : List Int) (n : Nat) (w : World) (r : Ending) (w' : World) : Prop := ∃ a' c', r = .returned (.slice a' n c') /\ w'.ownsRow w.heap.size 5 1 (.slice a' n c') n (iv .u8 L)
theorem Q3_ (a : Option Addr) (L : List Int) (n cap : Nat) (hL : L.length = n) (hn : n <= 1000000) (w : World) (hA : Ls .u8 w a cap L) :
  Calls prog 92 #[.slice a n cap] w fun r w' => ClB L n w r w' /\ Below w.heap.size w w' := by
 have HA := hid hA
 have HL := hid hL
 rcases a with _ | a
 ·obtain ⟨rfl, rfl⟩ := hA.nl rfl
  simp only [List.length_nil] at hL
  subst hL
  have hsn : ∀ W, (binOp .eql 42 (.slice none 0 0) (.slice none 0 0)).run prog W = .ok (.bool true) W := fun W => Lib.run_eql_slice_nil W 42 5 none 0 0 0 0 underlying42
  clear hA
  go_enter func92, ntmps92
  exact Xb112
 ·clear hA hL
  have hsn : ∀ W, (binOp .eql 42 (.slice (some a) n cap) (.slice none 0 0)).run prog W = .ok (.bool false) W := fun W => Lib.run_eql_slice_nil W 42 5 (some a) n cap 0 0 underlying42
  go_enter func92, ntmps92
  go_wp2_with (at_builtin; refine zB_ Qe_ rfl (.tmp 5) (.tmp 6) rfl w.heap.size _ 0 [] rfl (World.ownsRow_lit w #[] 0 (Nat.le_refl _) Xt4 rfl) _ _ n L HL.out rfl (HA.out.below ((Below.refl _ _).alloc (Nat.le_refl _) _)) Xt0 Xt5 ?_)
  exact Xb48
def CbB (L : List Int) (n : Nat) (w : World) (r : Ending) (w' : World) : Prop := ∃ a' c', r = .returned (.tuple #[.slice a' n c', .bool true]) /\ w'.ownsRow w.heap.size 5 1 (.slice a' n c') n (iv .u8 L)
theorem copy1_law (i : Int) (a : Option Addr) (L : List Int) (n cap : Nat) (hL : L.length = n) (hn : n <= 1000000) (w : World) (hA : Ls .u8 w a cap L) :
  Calls prog 91 #[.int .i64 i, .slice a n cap] w fun r w' => CbB L n w r w' /\ Below w.heap.size w w' := by
 have H := hid (Q3_ a L n cap hL hn w hA)
 clear hL hA
 go_enter func91, ntmps91
 go_wp2_with fail
 refine H.out.mono ?_; rintro e w' ⟨⟨a', c', rfl, o'⟩, B⟩
 go_wp2_with fail
 go_ret2
 exact ⟨⟨a', c', rfl, o'⟩, B⟩
structure CpR (base : Nat) (R : List P1) (k : Nat) (v : Value) (W : World) : Prop where
 ex : ∃ R' : List P1, R'.map P1.bs = (R.take k).map P1.bs /\ W.ownsRow base 42 1 v k (R'.map P1.v) /\ ∀ p ∈ R', W.ownsRow base 5 1 p.v p.bs.length (iv .u8 p.bs)
theorem CpR.nil (base : Nat) (R : List P1) (W : World) : CpR base R 0 (.slice none 0 0) W := ⟨[], rfl, World.ownsRow_nil _ _ _ _, fun p hp => by simp at hp⟩
theorem CpR.below {base k : Nat} {R : List P1} {v : Value} {W W' : World} (h : CpR base R k v W) (hb : Below W.heap.size W W') : CpR base R k v W' := by
 obtain ⟨R', h1, h2, h3⟩ := h.ex
 exact ⟨R', h1, ze_ h2 hb, fun p hp => ze_ (h3 p hp) hb⟩
theorem cpR_next {base k : Nat} {R : List P1} {v v4 : Value} {w3 w4 : World} {o : Obj} (R' : List P1) (h1 : R'.map P1.bs = (R.take k).map P1.bs) (h2 : w3.ownsRow base 42 1 v k (R'.map P1.v)) (h3 : ∀ p ∈ R', w3.ownsRow base 5 1 p.v p.bs.length (iv .u8 p.bs)) (p : P1) (hp : R[k]? = some p) (m : Nat) (hm : p.bs.length = m) (a1 : Option Addr) (c1 : Nat) (ho : w3.ownsRow base 5 1 (.slice a1 m c1) m (iv .u8 p.bs))
  (h4 : w4.ownsRow base 42 1 v4 (k + 1) (R'.map P1.v ++ [.slice a1 m c1])) (hg : (w3.alloc o).grownBy w4 v.ownBlock) : CpR base R (k + 1) v4 w4 := by
 subst hm
 have keep : ∀ (x : Value) (m : Nat) (xs : List Value), w3.ownsRow base 5 1 x m xs -> w4.ownsRow base 5 1 x m xs := fun x m xs hx => (hx.alloc _).kept hg (QL_ hx h2 Xt4)
 refine ⟨R' ++ [⟨a1, c1, p.bs⟩], ?_, ?_, fun q hq => ?_⟩
 ·rw [List.map_append, h1, List.take_add_one, hp]; simp
 ·rw [List.map_append]; exact h4
 ·rcases List.mem_append.1 hq with hq | hq
  ·exact keep _ _ _ (h3 q hq)
  ·simp at hq
   subst hq
   exact keep _ _ _ ho
theorem cinfo24 : (prog.info? 42).map (fun i => (i.zero, i.size, i.bytes)) = some (some (.slice none 0 0), 1, 24) := by kernel_rfl
def EcB (base : Nat) (R : List P1) (n : Nat) (r : Ending) (w' : World) : Prop := ∃ v, r = .returned (.tuple #[v, .bool true]) /\ CpR base R n v w'
theorem Q0_ (a : Option Addr) (R : List P1) (n cap : Nat) (hn : R.length = n) (hn3 : n <= 9000) (hl : ∀ p ∈ R, p.bs.length <= 9000) (w : World) (hR : RdR w a R) :
  Calls prog 90 #[.slice a n cap, .func (.func 91) #[] #[]] w fun r w' => EcB w.heap.size R n r w' /\ Below w.heap.size w w' := by
 have HR := hid hR
 have HN := hid hn
 have HLL := hid hl
 clear hR hn hl
 obtain ⟨i0, hi, hz0, hz1, hz2⟩ := info_parts cinfo24
 go_enter func90, ntmps90
 go_wp2_with fail
 go_loopw [6, 13] (fun v i wr => ∃ k : Nat, k <= n /\ i = .int .i64 k /\ CpR w.heap.size R k v wr /\ Below w.heap.size w wr) (fun _ i _ => n - (intOf i).toNat)
 case atStart => exact ⟨0, by omega, rfl, CpR.nil _ _ _, Below.refl _ _⟩
 case round =>
  obtain ⟨k, hk, rfl, hc, B⟩ := hrel
  by_cases hlt : k < n
  ·have hkl : (k : Int) < (n : Int) := by omega
   obtain ⟨p, hp⟩ : ∃ p, R[k]? = some p := ⟨_, List.getElem?_eq_getElem Xt9⟩
   obtain ⟨b1, o1, e1, c1, l1⟩ := HR.out.below B k p hp
   subst e1
   have c2 : wr.cell? ⟨b1, o1 + k, none⟩ = some (.slice p.ad p.bs.length p.cap) := c1
   have HPP := hid hp
   have hp9 := HLL.out p (List.mem_of_getElem? hp)
   obtain ⟨q, hq⟩ := gtx (p.bs.length)
   rw [hq] at c2 hp9
   have HQ := hid hq
   have hs1 := B.size
   have H1 := hid (copy1_law (k : Int) p.ad p.bs q p.cap hq Xt0 wr l1)
   have HC := hid hc
   clear c1 hp hq l1 hc
   go_wp2_with fail
   refine H1.out.mono ?_; rintro e w3 ⟨⟨a1, c1, rfl, ho⟩, B3⟩
   obtain ⟨R', r1, r2, r3⟩ := (HC.out.below B3).ex
   have HO := hid (xZ_ hs1 ho)
   have R1 := hid r1
   have R2 := hid r2
   have R3 := hid r3
   have hs3 : w.heap.size <= w3.heap.size := Nat.le_trans hs1 B3.size
   clear ho r1 r2 r3 HC H1
   go_wp2_with (at_builtin; refine wpList_append_own _ rfl (.tmp 28) (.tmp 30) 49 rfl w.heap.size 42 i0 (.slice none 0 0) 1 24 underlying49 hi hz0 hz1 hz2 rfl Xt4 _ k (R'.map P1.v) rfl (R2.out.alloc _) ⟨w3.heap.size, 0, none⟩ 1 1 [.slice a1 q c1] rfl rfl Xt14 Xt45 Xt15 Xt0 Xt7 ?_)
   exact Xb35
  ·have hkl : ¬ (k : Int) < (n : Int) := by omega
   obtain rfl : k = n := by omega
   have HC := hid hc
   clear hc
   go_wp2_with fail
   go_ret2
   exact ⟨⟨_, rfl, HC.out⟩, B⟩
def RcB (base : Nat) (R : List P1) (n : Nat) (r : Ending) (w' : World) : Prop := ∃ v, r = .returned v /\ CpR base R n v w'
theorem zV_ (a : Option Addr) (R : List P1) (n cap : Nat) (hn : R.length = n) (hn3 : n <= 9000) (hl : ∀ p ∈ R, p.bs.length <= 9000) (w : World) (hR : RdR w a R) :
  Calls prog 55 #[.slice a n cap] w fun r w' => RcB w.heap.size R n r w' /\ Below w.heap.size w w' := by
 have H := hid (Q0_ a R n cap hn hn3 hl w hR)
 clear hn hl hR
 go_enter func55, ntmps55
 go_wp2_with fail
 refine H.out.mono ?_; rintro e w' ⟨⟨v, rfl, hc⟩, B⟩
 exact Xb117
theorem xC_ (a : Option Addr) (R : List P1) (n cap : Nat) (hn : R.length = n) (hn3 : n <= 9000) (hl : ∀ p ∈ R, p.bs.length <= 9000) (w : World) (hR : RdR w a R) :
  Calls prog 60 #[.slice a n cap] w fun r w' => RcB w.heap.size R n r w' /\ Below w.heap.size w w' := by
 have HR := hid hR
 have HN := hid hn
 have HLL := hid hl
 clear hR hn hl
 obtain ⟨i0, hi, hz0, hz1, hz2⟩ := info_parts cinfo24
 go_enter func60, ntmps60
 go_wp2_with fail
 go_loopw [3, 4] (fun v i wr => ∃ k : Nat, k <= n /\ i = .int .i64 k /\ CpR w.heap.size R k v wr /\ Below w.heap.size w wr) (fun _ i _ => n - (intOf i).toNat)
 case atStart => exact ⟨0, by omega, rfl, CpR.nil _ _ _, Below.refl _ _⟩
 case round =>
  obtain ⟨k, hk, rfl, hc, B⟩ := hrel
  by_cases hlt : k < n
  ·have hkl : (k : Int) < (n : Int) := by omega
   obtain ⟨p, hp⟩ : ∃ p, R[k]? = some p := ⟨_, List.getElem?_eq_getElem Xt9⟩
   obtain ⟨b1, o1, e1, c1, l1⟩ := HR.out.below B k p hp
   subst e1
   have c2 : wr.cell? ⟨b1, o1 + k, none⟩ = some (.slice p.ad p.bs.length p.cap) := c1
   have HPP := hid hp
   have hp9 := HLL.out p (List.mem_of_getElem? hp)
   obtain ⟨q, hq⟩ := gtx (p.bs.length)
   rw [hq] at c2 hp9
   have HQ := hid hq
   have hs1 := B.size
   have HC := hid hc
   have HL1 := hid l1
   clear c1 hp hq l1 hc
   go_wp2_with (at_builtin; refine zB_ Qe_ rfl (.const (.slice none 0 0)) (.tmp 15) rfl wr.heap.size _ 0 [] rfl (World.ownsRow_nil _ _ _ _) _ _ q p.bs HQ.out rfl HL1.out Xt0 (Nat.le_refl _) ?_)
   intro v3 w3 ho hg3
   have B3 : Below wr.heap.size wr w3 := (Below.refl wr.heap.size wr).grown hg3 (Nat.le_refl _) Xt23
   obtain ⟨a1, c1, rfl, _⟩ := yv_ ho HQ.out
   obtain ⟨R', r1, r2, r3⟩ := (HC.out.below B3).ex
   have HO := hid (xZ_ hs1 ho)
   have R1 := hid r1
   have R2 := hid r2
   have R3 := hid r3
   have hs3 : w.heap.size <= w3.heap.size := Nat.le_trans hs1 B3.size
   clear ho r1 r2 r3 HC HL1 hg3
   go_wp2_with (at_builtin; refine wpList_append_own _ rfl (.tmp 11) (.tmp 17) 50 rfl w.heap.size 42 i0 (.slice none 0 0) 1 24 underlying50 hi hz0 hz1 hz2 rfl Xt4 _ k (R'.map P1.v) rfl (R2.out.alloc _) ⟨w3.heap.size, 0, none⟩ 1 1 [.slice a1 q c1] rfl rfl Xt14 Xt45 Xt15 Xt0 Xt7 ?_)
   exact Xb35
  ·have hkl : ¬ (k : Int) < (n : Int) := by omega
   obtain rfl : k = n := by omega
   exact Xb117
def ltL : List Int -> List Int -> Bool
 | [], [] => false
 | [], _ :: _ => true
 | _ :: _, [] => false
 | a :: x, b :: y => decide (a < b) || (decide (a = b) && ltL x y)
theorem zT_ : ∀ x, ltL x x = false
 | [] => rfl
 | a :: x => by simp [ltL, zT_ x]
theorem zF_ : ∀ {x y z : List Int}, ltL x y = true -> ltL y z = true -> ltL x z = true
 | [], [], z, h, _ => by cases h
 | [], b :: y, [], _, h => by simp [ltL] at h
 | [], b :: y, c :: z, _, _ => rfl
 | a :: x, [], z, h, _ => by simp [ltL] at h
 | a :: x, b :: y, [], _, h => by simp [ltL] at h
 | a :: x, b :: y, c :: z, h, k => by
  simp only [ltL, Bool.or_eq_true, Bool.and_eq_true, decide_eq_true_eq] at h k ⊢
  rcases h with h | ⟨h, h'⟩ <;> rcases k with k | ⟨k, k'⟩
  ·exact .inl Xt0
  ·exact .inl Xt0
  ·exact .inl Xt0
  ·exact .inr ⟨by omega, zF_ h' k'⟩
theorem xc_ : ∀ {x y : List Int}, ltL x y = false -> ltL y x = false -> x = y
 | [], [], _, _ => rfl
 | [], b :: y, h, _ => by simp [ltL] at h
 | a :: x, [], _, h => by simp [ltL] at h
 | a :: x, b :: y, h, k => by
  simp only [ltL, Bool.or_eq_false_iff, Bool.and_eq_false_iff, decide_eq_false_iff_not] at h k
  have e : a = b := by omega
  subst e
  rw [xc_ (h.2.resolve_left (fun n => n rfl)) (k.2.resolve_left (fun n => n rfl))]
theorem yC_ {x y : List Int} (h : ltL x y = true) : ltL y x = false := by
 cases k : ltL y x
 ·rfl
 ·have := zF_ h k; rw [zT_] at this; cases this
theorem qY_ {x y : List Int} (h : ltL x y = true) : x ≠ y := fun e => by subst e; rw [zT_] at h; cases h
abbrev Pr := List Int × List (List Int)
def Ris {α : Type} (key : α -> List Int) : List α -> Prop := List.Pairwise fun a b => ltL (key a) (key b) = true
abbrev yh_ (t : List Pr) : Prop := Ris Prod.fst t
def y4_ (t : List Pr) (k : List Int) : Option (List (List Int)) := (t.find? fun p => decide (p.1 = k)).map Prod.snd
def xO_ (t : List Pr) (k : List Int) (r : List (List Int)) : List Pr := t.filter (fun p => ltL p.1 k) ++ ((if r = [] then [] else [(k, r)]) ++ t.filter (fun p => ltL k p.1))
theorem xr_ {t : List Pr} {k : List Int} {r : List (List Int)} {p : Pr} : p ∈ xO_ t k r ↔ (p ∈ t /\ p.1 ≠ k) ∨ (p = (k, r) /\ r ≠ []) := by
 unfold xO_
 simp only [List.mem_append, List.mem_filter]
 constructor
 ·rintro (⟨h, l⟩ | h | ⟨h, l⟩)
  ·exact .inl ⟨h, qY_ l⟩
  ·split at h
   ·simp at h
   ·next hr => exact .inr ⟨by simpa using h, hr⟩
  ·exact .inl ⟨h, (qY_ l).symm⟩
 ·rintro (⟨h, n⟩ | ⟨rfl, hr⟩)
  ·cases l : ltL p.1 k
   ·cases g : ltL k p.1
    ·exact absurd (xc_ l g) n
    ·exact .inr (.inr ⟨h, rfl⟩)
   ·exact .inl ⟨h, rfl⟩
  ·exact .inr (.inl (by rw [if_neg hr]; simp))
theorem qR_ {t : List Pr} (h : yh_ t) (k : List Int) (r : List (List Int)) : yh_ (xO_ t k r) := by
 unfold xO_
 refine List.pairwise_append.2 ⟨h.filter _, List.pairwise_append.2 ⟨?_, h.filter _, ?_⟩, ?_⟩
 ·split <;> simp
 ·intro a ha b hb
  split at ha
  ·simp at ha
  ·have ha : a = (k, r) := by simpa using ha
   subst ha
   exact (List.mem_filter.1 hb).2
 ·intro a ha b hb
  have ha := (List.mem_filter.1 ha).2
  rcases List.mem_append.1 hb with hb | hb
  ·split at hb
   ·simp at hb
   ·have hb : b = (k, r) := by simpa using hb
    subst hb
    exact ha
  ·exact zF_ ha (List.mem_filter.1 hb).2
theorem jU_ {α : Type} {key : α -> List Int} : ∀ {a b : List α}, Ris key a -> Ris key b -> (∀ x, x ∈ a ↔ x ∈ b) -> a = b
 | [], [], _, _, _ => rfl
 | [], y :: b, _, _, h => absurd ((h y).2 (List.mem_cons_self ..)) Xt5
 | x :: a, [], _, _, h => absurd ((h x).1 (List.mem_cons_self ..)) Xt5
 | x :: a, y :: b, ha, hb, h => by
  have ha' := List.pairwise_cons.1 ha
  have hb' := List.pairwise_cons.1 hb
  have exy : x = y := by
   rcases List.mem_cons.1 ((h x).1 (List.mem_cons_self ..)) with e | e
   ·exact e
   ·rcases List.mem_cons.1 ((h y).2 (List.mem_cons_self ..)) with e2 | e2
    ·exact e2.symm
    ·have h1 := hb'.1 x e
     have h2 := ha'.1 y e2
     rw [yC_ h1] at h2; cases h2
  subst exy
  have hx : ∀ z, z ∈ a -> z ≠ x := fun z hz e => by subst e; have := ha'.1 z hz; rw [zT_] at this; cases this
  have hy : ∀ z, z ∈ b -> z ≠ x := fun z hz e => by subst e; have := hb'.1 z hz; rw [zT_] at this; cases this
  rw [jU_ ha'.2 hb'.2 (fun z => ⟨fun hz => (List.mem_cons.1 ((h z).1 (List.mem_cons_of_mem _ hz))).resolve_left (hx z hz), fun hz => (List.mem_cons.1 ((h z).2 (List.mem_cons_of_mem _ hz))).resolve_left (hy z hz)⟩)]
theorem yx_ {t : List Pr} (h : yh_ t) {k : List Int} {r : List (List Int)} : y4_ t k = some r ↔ (k, r) ∈ t := by
 induction t with
 | nil => simp [y4_]
 | cons p t ih =>
  obtain ⟨h1, h2⟩ := List.pairwise_cons.1 h
  unfold y4_
  rw [List.find?_cons]
  by_cases e : p.1 = k
  ·rw [show decide (p.1 = k) = true by simp [e]]
   constructor
   ·exact Xb115
   ·exact Xb95
  ·rw [show decide (p.1 = k) = false by simp [e]]
   constructor
   ·intro hh; exact List.mem_cons_of_mem _ ((ih h2).1 hh)
   ·exact Xb106
theorem q4_ {t : List Pr} {k : List Int} : y4_ t k = none ↔ ∀ p ∈ t, p.1 ≠ k := by
 unfold y4_
 rw [Option.map_eq_none_iff, List.find?_eq_none]
 simp
theorem Qa_ {t : List Pr} (h : yh_ t) (k : List Int) (r : List (List Int)) (j : List Int) : y4_ (xO_ t k r) j = if j = k then (if r = [] then none else some r) else y4_ t j := by
 by_cases e : j = k
 ·subst e
  rw [if_pos rfl]
  by_cases hr : r = []
  ·rw [if_pos hr, q4_]
   intro p hp
   rcases xr_.1 hp with hp | hp
   ·exact hp.2
   ·exact absurd hr hp.2
  ·rw [if_neg hr, yx_ (qR_ h _ _)]
   exact xr_.2 (.inr ⟨rfl, hr⟩)
 ·rw [if_neg e]
  cases hg : y4_ t j with
  | some x => exact (yx_ (qR_ h _ _)).2 (xr_.2 (.inl ⟨(yx_ h).1 hg, e⟩))
  | none =>
   rw [q4_] at hg ⊢
   intro p hp
   rcases xr_.1 hp with hp | hp
   ·exact hg p hp.1
   ·rw [hp.1]; exact fun e' => e e'.symm
theorem x3_ {x y : List Int} (h : ltL x y = false) (hne : y ≠ x) : ltL y x = true := by
 cases k : ltL y x
 ·exact absurd (xc_ k h) hne
 ·rfl
theorem xW_ {α : Type} {key : α -> List Int} : ∀ {l : List α}, (l.Pairwise fun a b => ltL (key b) (key a) = false) -> (l.Pairwise fun a b => key a ≠ key b) -> Ris key l
 | [], _, _ => List.Pairwise.nil
 | x :: l, h, k => by
  obtain ⟨h1, h2⟩ := List.pairwise_cons.1 h
  obtain ⟨k1, k2⟩ := List.pairwise_cons.1 k
  exact List.pairwise_cons.2 ⟨fun y hy => x3_ (h1 y hy) (k1 y hy), xW_ h2 k2⟩
theorem ris_perm {α : Type} {key : α -> List Int} {a b : List α} (ha : Ris key a) (hb : Ris key b) (h : a.Perm b) : a = b := jU_ ha hb fun x => h.mem_iff
theorem QC_ {α : Type} {key : α -> List Int} {l : List α} (h : Ris key l) : l.Pairwise fun a b => key a ≠ key b := h.imp fun h => qY_ h
theorem qr_ {α : Type} {key : α -> List Int} {a b : List α} (h : a.Perm b) (k : a.Pairwise fun a b => key a ≠ key b) : b.Pairwise fun a b => key a ≠ key b :=
 (h.pairwise_iff (R := fun a b => key a ≠ key b) (fun h e => h e.symm)).1 k
structure PrV where
 ka : Option Addr
 kc : Nat
 K : List Int
 ra : Option Addr
 rc : Nat
 R : List P1
def prC (x : PrV) : Pr := (x.K, x.R.map P1.bs)
structure Qm_ (x : PrV) : Prop where
 kb : Byt x.K
 rb : ∀ p ∈ x.R, Byt p.bs
 rn : x.R.length <= 1000000
def zo_ (W : World) (a : Option Addr) (L : List PrV) : Prop := ∀ (k : Nat) (x : PrV), L[k]? = some x -> ∃ b off, a = some ⟨b, off, none⟩ /\ W.cell? ⟨b, off + k * 2, none⟩ = some (.slice x.ka x.K.length x.kc) /\ W.cell? ⟨b, off + k * 2 + 1, none⟩ = some (.slice x.ra x.R.length x.rc) /\ Ls .u8 W x.ka x.kc x.K /\ RdR W x.ra x.R
theorem zo_.below {W W' : World} {a : Option Addr} {L : List PrV} (h : zo_ W a L) (hb : Below W.heap.size W W') : zo_ W' a L := fun k x hx => by
 obtain ⟨b, off, e, c0, c1, l, r⟩ := h k x hx
 exact ⟨b, off, e, tcb hb c0, tcb hb c1, l.below hb, r.below hb⟩
theorem xb_ {α β : Type} {f : α -> β} {L M : List α} {k : Nat} {x y : α} (hx : L[k]? = some x) (hy : M[k]? = some y) (h : f x ≠ f y) : L.map f ≠ M.map f := fun e => by
 have e1 : (L.map f)[k]? = (M.map f)[k]? := by rw [e]
 rw [List.getElem?_map, List.getElem?_map, hx, hy] at e1
 exact h (by simpa using e1)
theorem yD_ (a b : Option Addr) (L M : List PrV) (n m ca cb : Nat) (hn : L.length = n) (hm : M.length = m) (hn2 : n <= 1000000) (hm2 : m <= 1000000) (okL : ∀ x ∈ L, Qm_ x) (okM : ∀ x ∈ M, Qm_ x) (w : World) (hA : zo_ w a L) (hB : zo_ w b M) :
  Calls prog 73 #[.slice a n ca, .slice b m cb] w fun r w' => r = .returned (.bool (decide (L.map prC = M.map prC))) /\ Below w.heap.size w w' := by
 have HR := hid (And.intro hA hB)
 have HN := hid (And.intro hn hm)
 have HOK := hid (And.intro okL okM)
 have hni : (n : Int) <= 1000000 := by omega
 have hmi : (m : Int) <= 1000000 := by omega
 clear hA hB hn hm okL okM
 by_cases hnm : n = m
 ·subst hnm
  have e4 : ((n : Int) != (n : Int)) = false := by simp
  go_enter func73, ntmps73
  go_wp2_with fail
  clear e4
  go_loopw [5] (fun i wr => ∃ k : Nat, k <= n /\ i = .int .i64 (k : Int) /\ Hid ((L.take k).map prC = (M.take k).map prC) /\ Hid (Below w.heap.size w wr)) (fun i _ => n - (intOf i).toNat)
  case atStart => exact ⟨0, by omega, rfl, hid rfl, hid (Below.refl _ _)⟩
  case round =>
   obtain ⟨k, hk, rfl, HE, HBW⟩ := hrel
   by_cases hlt : k < n
   ·have d1 : (k : Int) < (n : Int) := by omega
    obtain ⟨x, hx⟩ : ∃ x, L[k]? = some x := ⟨_, List.getElem?_eq_getElem Xt70⟩
    obtain ⟨y, hy⟩ : ∃ y, M[k]? = some y := ⟨_, List.getElem?_eq_getElem Xt71⟩
    obtain ⟨b1, o1, ea, c0, c1, lx, rx⟩ := (HR.out.1.below HBW.out) k x hx
    subst ea
    obtain ⟨b2, o2, eb, e0, e1, ly, ry⟩ := (HR.out.2.below HBW.out) k y hy
    subst eb
    have okx := HOK.out.1 x (List.mem_of_getElem? hx)
    have oky := HOK.out.2 y (List.mem_of_getElem? hy)
    have HXY := hid (And.intro hx hy)
    have HRS := hid (fun W (b : Below wr.heap.size wr W) => y8_ x.ra y.ra x.R y.R x.R.length y.R.length x.rc y.rc rfl rfl okx.rn okx.rb oky.rb W (rx.below b) (ry.below b))
    obtain ⟨q, hq⟩ := gtx (eqB x.R y.R)
    rw [hq] at HRS
    have HKB := hid (And.intro okx.kb oky.kb)
    have HQ := hid hq
    have HPC := hid (show prC x = (x.K, x.R.map P1.bs) /\ prC y = (y.K, y.R.map P1.bs) from ⟨rfl, rfl⟩)
    obtain ⟨XK, hXK⟩ := gtx (x.K)
    obtain ⟨xkn, hxkn⟩ := gtx (XK.length)
    obtain ⟨xka, hxka⟩ := gtx (x.ka)
    obtain ⟨xkc, hxkc⟩ := gtx (x.kc)
    obtain ⟨xrn, hxrn⟩ := gtx (x.R.length)
    obtain ⟨xra, hxra⟩ := gtx (x.ra)
    obtain ⟨xrc, hxrc⟩ := gtx (x.rc)
    obtain ⟨YK, hYK⟩ := gtx (y.K)
    obtain ⟨ykn, hykn⟩ := gtx (YK.length)
    obtain ⟨yka, hyka⟩ := gtx (y.ka)
    obtain ⟨ykc, hykc⟩ := gtx (y.kc)
    obtain ⟨yrn, hyrn⟩ := gtx (y.R.length)
    obtain ⟨yra, hyra⟩ := gtx (y.ra)
    obtain ⟨yrc, hyrc⟩ := gtx (y.rc)
    rw [hxka, hXK, hxkn, hxkc] at c0
    rw [hxra, hxrn, hxrc] at c1
    rw [hyka, hYK, hykn, hykc] at e0
    rw [hyra, hyrn, hyrc] at e1
    rw [hxra, hyra, hxrn, hyrn, hxrc, hyrc] at HRS
    rw [hxka, hXK, hxkc] at lx
    rw [hyka, hYK, hykc] at ly
    rw [hXK, hYK] at HKB HPC
    have HKX := hid (And.intro hxkn lx)
    have HKY := hid (And.intro hykn ly)
    have HX5 := hid (fun W (b : Below wr.heap.size wr W) => (⟨tcb b c0, tcb b c1⟩ : W.cell? ⟨b1, o1 + k * 2, none⟩ = some (.slice xka xkn xkc) /\ W.cell? ⟨b1, o1 + k * 2 + 1, none⟩ = some (.slice xra xrn xrc)))
    have HY5 := hid (fun W (b : Below wr.heap.size wr W) => (⟨tcb b e0, tcb b e1⟩ : W.cell? ⟨b2, o2 + k * 2, none⟩ = some (.slice yka ykn ykc) /\ W.cell? ⟨b2, o2 + k * 2 + 1, none⟩ = some (.slice yra yrn yrc)))
    clear c0 c1 e0 e1 lx ly rx ry okx oky hx hy hq hXK hxkn hxka hxkc hxrn hxra hxrc hYK hykn hyka hykc hyrn hyra hyrc
    by_cases hkk : XK = YK
    ·have HKK := hid hkk
     have hne : ((strOfNums XK).toList != (strOfNums YK).toList) = false := by rw [hkk]; simp
     have hnp : (strOfNums XK).toList = (strOfNums YK).toList := by rw [hkk]
     clear hkk
     go_upto_region 6 with (fail)
     rename_i KK hKK
     refine wmo ?_
     refine rgw wr (Below.refl _ _).drew fun hH => ?_
     refine tkq4 0 1 2 3 ?_
     refine tkr 4 rfl Xf17 ?_
     refine tkr 5 rfl Xf36 ?_
     refine tkq4 6 7 8 9 ?_
     refine tkr 10 rfl Xf18 ?_
     refine tkr 11 rfl Xf24 ?_
     refine tkp 12 (.bool false) rfl (.inl ⟨by rfl, ?_⟩) ?_
     ·exact Xb25
     refine tkp 13 (.bool false) rfl (.inl ⟨by rfl, ?_⟩) ?_
     ·exact Xb25
     refine tkq4 14 15 16 17 ?_
     refine tkr 18 rfl Xf17 ?_
     refine tkq4 19 20 21 22 ?_
     refine tkr 23 rfl Xf18 ?_
     refine tk1 24 rfl fun K hK => ?_
     go_simp
     refine (HRS.out _ hH).mono ?_; rintro e9 w9 ⟨rfl, hb9⟩
     go_wp2_with fail
     refine hK.out _ _ (za_ hH hb9) fun hH => ?_
     clear hb9
     refine stP ?_
     refine tkq2 25 26 ?_
     refine adn ?_
     skip
     refine hKK _ _ ?_
     have HB9 := hid (za_ HBW.out hH)
     clear hH hne hnp
     cases q
     ·have HV := hid (show decide (L.map prC = M.map prC) = false by
       rw [decide_eq_false_iff_not]
       refine xb_ HXY.out.1 HXY.out.2 ?_
       rw [HPC.out.1, HPC.out.2]
       intro e9
       have := HQ.out
       unfold eqB at this
       rw [decide_eq_false_iff_not] at this
       exact this (Prod.mk.inj e9).2)
      exact Xb51
     ·have HEN := hid (show (L.take (k + 1)).map prC = (M.take (k + 1)).map prC by
       rw [List.take_add_one, List.take_add_one, HXY.out.1, HXY.out.2, List.map_append, List.map_append, HE.out]
       have hr := HQ.out
       unfold eqB at hr
       rw [decide_eq_true_eq] at hr
       simp only [Option.toList_some, List.map_cons, List.map_nil, HPC.out.1, HPC.out.2, HKK.out, hr])
      exact Xb55
    ·have HV := hid (show decide (L.map prC = M.map prC) = false by
      rw [decide_eq_false_iff_not]
      refine xb_ HXY.out.1 HXY.out.2 ?_
      rw [HPC.out.1, HPC.out.2]
      exact fun e9 => hkk (Prod.mk.inj e9).1)
     have hne : ((strOfNums XK).toList != (strOfNums YK).toList) = true := by
      rw [bne_iff_ne]
      intro e9
      rw [ByteArray.toList_eq, ByteArray.toList_eq] at e9
      exact hkk (qh_ HKB.out.1 HKB.out.2 (bytes_inj e9))
     have hnp : ¬ (strOfNums XK).toList = (strOfNums YK).toList := bne_iff_ne.1 hne
     clear hkk
     go_upto_region 6 with (fail)
     rename_i KK hKK
     refine wmo ?_
     refine rgw wr (Below.refl _ _).drew fun hH => ?_
     refine tkq4 0 1 2 3 ?_
     refine tkr 4 rfl Xf17 ?_
     refine tkr 5 rfl Xf36 ?_
     refine tkq4 6 7 8 9 ?_
     refine tkr 10 rfl Xf18 ?_
     refine tkr 11 rfl Xf24 ?_
     refine tkp 12 (.bool true) rfl (.inl ⟨by rfl, ?_⟩) ?_
     ·exact Xb25
     refine tkp 13 (.bool true) rfl (.inl ⟨by rfl, ?_⟩) ?_
     ·exact Xb25
     refine tkn 14 ?_
     refine tkn 15 ?_
     refine tkn 16 ?_
     refine tkn 17 ?_
     refine tkn 18 ?_
     refine tkn 19 ?_
     refine tkn 20 ?_
     refine tkn 21 ?_
     refine tkn 22 ?_
     refine tkn 23 ?_
     refine tkn 24 ?_
     refine tkn 25 ?_
     refine tkp 26 (.bool true) rfl (.inl ⟨by rfl, ?_⟩) ?_
     ·intro W hSw; go_simp; try (first | rfl | (simp; done))
     refine adn ?_
     skip
     refine hKK _ _ ?_
     have HB9 := hid (za_ HBW.out hH)
     clear hH hne hnp
     exact Xb51
   ·have d1 : ¬ (k : Int) < (n : Int) := by omega
    have HV := hid (show decide (L.map prC = M.map prC) = true by
     have h1 := HE.out
     rw [List.take_of_length_le (by rw [HN.out.1]; omega), List.take_of_length_le (by rw [HN.out.2]; omega)] at h1
     rw [decide_eq_true_eq]; exact h1)
    exact Xb85
 ·have e4 : ((n : Int) != (m : Int)) = true := by rw [bne_iff_ne]; omega
  have HV := hid (show decide (L.map prC = M.map prC) = false by
   rw [decide_eq_false_iff_not]
   intro e9
   have := congrArg List.length e9
   rw [List.length_map, List.length_map, HN.out.1, HN.out.2] at this
   exact hnm this)
  clear hnm
  go_enter func73, ntmps73
  exact Xb78
theorem yQ_ (L : List Int) : (strOfNums L).toList = L.map fun x => UInt8.ofNat x.toNat := by
 rw [ByteArray.toList_eq]
 simp [strOfNums]
theorem j5_ : ∀ {A B : List Int}, Byt A -> Byt B -> Op.bytesLess (A.map fun x => UInt8.ofNat x.toNat) (B.map fun x => UInt8.ofNat x.toNat) = ltL A B
 | [], [], _, _ => rfl
 | [], b :: B, _, _ => rfl
 | a :: A, [], _, _ => rfl
 | a :: A, b :: B, ha, hb => by
  have h1 := ha a (List.mem_cons_self ..)
  have h2 := hb b (List.mem_cons_self ..)
  have ih := j5_ (A := A) (B := B) (fun x hx => ha x (List.mem_cons_of_mem _ hx)) (fun x hx => hb x (List.mem_cons_of_mem _ hx))
  rw [List.map_cons, List.map_cons]
  show (decide (UInt8.ofNat a.toNat < UInt8.ofNat b.toNat) || ((UInt8.ofNat a.toNat == UInt8.ofNat b.toNat) && Op.bytesLess _ _)) = (decide (a < b) || (decide (a = b) && ltL A B))
  rw [ih]
  have e1 : decide (UInt8.ofNat a.toNat < UInt8.ofNat b.toNat) = decide (a < b) := by
   apply Bool.eq_iff_iff.2
   rw [decide_eq_true_eq, decide_eq_true_eq, UInt8.lt_iff_toNat_lt, UInt8.toNat_ofNat', UInt8.toNat_ofNat', Nat.mod_eq_of_lt Xt0, Nat.mod_eq_of_lt Xt0]
   omega
  have e2 : (UInt8.ofNat a.toNat == UInt8.ofNat b.toNat) = decide (a = b) := by
   apply Bool.eq_iff_iff.2
   rw [beq_iff_eq, decide_eq_true_eq, ← UInt8.toNat_inj, UInt8.toNat_ofNat', UInt8.toNat_ofNat', Nat.mod_eq_of_lt Xt0, Nat.mod_eq_of_lt Xt0]
   omega
  rw [e1, e2]
theorem yi_ {A B : List Int} (ha : Byt A) (hb : Byt B) : Op.bytesLess (strOfNums A).toList (strOfNums B).toList = ltL A B := by
 rw [yQ_, yQ_]; exact j5_ ha hb
structure TakB (W : World) (ad : Option Addr) (cap n : Nat) (wr : World) : Prop where
 k0 : wr.cell? ⟨W.heap.size, 0, none⟩ = some (.slice ad n cap)
 k1 : wr.cell? ⟨W.heap.size, 1, none⟩ = some (.int .i64 0)
 k2 : wr.cell? ⟨W.heap.size, 2, none⟩ = some (.bool true)
theorem ja_ (w : World) (o : Obj) : Below w.heap.size w (w.alloc o) := (Below.refl _ _).alloc (Nat.le_refl _) _
theorem b2 (w : World) (o p : Obj) : Below w.heap.size w ((w.alloc o).alloc p) := za_ (ja_ _ _) (ja_ _ _)
theorem b3 (w : World) (o p q : Obj) : Below w.heap.size w (((w.alloc o).alloc p).alloc q) := za_ (b2 _ _ _) (ja_ _ _)
structure Job where
 w : Int
 l : Int
 d : Int
 c : Int
 k : Int
 e : Int
 a : Option Addr
 n : Nat
 cap : Nat
 T : List Int
structure yd_ (W : World) (j : Job) : Prop where
 ls : Ls .i64 W j.a j.cap j.T
 len : j.T.length = j.n
 le : j.n <= 1000000
theorem yd_.below {W W' : World} {j : Job} (h : yd_ W j) (b : Below W.heap.size W W') : yd_ W' j := ⟨h.ls.below b, h.len, h.le⟩
def inB (x a b : Int) : Bool := decide (a <= x /\ x <= b)
def hB (j : Job) : Bool := decide (1 <= j.w /\ j.w <= 4 /\ 1 <= j.l /\ j.l <= 2 /\ j.l <= j.w /\ 3 <= j.d /\ j.d <= 15 /\ 1024 <= j.c /\ j.c <= 65536 /\ 1024 <= j.k /\ j.k <= 1048576 /\ 1 <= j.e /\ j.e <= 100 /\ 1 <= j.n /\ j.n <= 4)
def tB (T : List Int) : Bool := T.all fun x => inB x 0 2
def okB (j : Job) : Bool := hB j && tB j.T
def qf_ (j : Job) : Int := if okB j then 0 else 2
def zg_ (W : World) (B : Nat) (cs : Array Value) (t : TypeId) : Prop := W.heap[B]? = some (.cells cs t (0, 0))
theorem zg_.below {W W' : World} {B : Nat} {cs : Array Value} {t : TypeId} (h : zg_ W B cs t) (hb : Below W.heap.size W W') : zg_ W' B cs t := (hb.block B (Array.getElem?_eq_some_iff.1 h).1).trans h
theorem zg_.lt {W : World} {B : Nat} {cs : Array Value} {t : TypeId} (h : zg_ W B cs t) : B < W.heap.size := (Array.getElem?_eq_some_iff.1 h).1
theorem zg_.cell {W : World} {B : Nat} {cs : Array Value} {t : TypeId} (h : zg_ W B cs t) (i : Nat) : W.cell? ⟨B, i, none⟩ = cs[i]? := by simp [World.cell?, show W.heap[B]? = _ from h]
theorem zg_.new (W : World) (cs : Array Value) (t : TypeId) : zg_ (W.alloc (.cells cs t)) W.heap.size cs t := World.alloc_heap_new _ _
theorem zQ_ (x a b : Int) (w : World) : Calls prog 75 #[.int .i64 x, .int .i64 a, .int .i64 b] w fun r w' => r = .returned (.bool (inB x a b)) /\ w = w' := by
 go_enter func75, ntmps75
 by_cases h1 : a <= x
 ·go_wp2
  go_ret
  exact ⟨by unfold inB; by_cases h2 : x <= b <;> simp [h1, h2], rfl⟩
 ·go_wp2
  go_ret
  exact ⟨by rw [show inB x a b = false from decide_eq_false Xt0]; rfl, rfl⟩
theorem hB_eq (j : Job) : hB j = (inB j.w 1 4 && inB j.l 1 2 && decide (j.l <= j.w) && inB j.d 3 15 && inB j.c 1024 65536 && inB j.k 1024 1048576 && inB j.e 1 100 && inB j.n 1 4) := by
 unfold hB inB
 rw [Bool.eq_iff_iff]
 simp
 omega
theorem tB_take {T : List Int} {k : Nat} (hk : k < T.length) : tB (T.take (k + 1)) = (tB (T.take k) && inB (T.getD k 0) 0 2) := by
 rw [y6_ T k hk]
 simp [tB]
theorem tB_false {T : List Int} {k : Nat} (h : tB (T.take k) = false) : tB T = false := by
 by_cases e : tB T = true
 ·have : tB (T.take k) = true := by
   simp only [tB, List.all_eq_true] at e ⊢
   exact fun x hx => e x (List.mem_of_mem_take hx)
  rw [h] at this; cases this
 ·simpa using e
theorem x8_ (j : Job) (w : World) (hj : yd_ w j) :
  Calls prog 36 #[.agg #[.int .i64 j.w, .int .i64 j.l, .int .i64 j.d, .int .i64 j.c, .int .i64 j.k, .int .i64 j.e, .slice j.a j.n j.cap]] w fun r w' => r = .returned (.int .i64 (qf_ j)) /\ Below w.heap.size w w' := by
 have HJ := hid hj
 have hle := hj.le
 have hli : (j.n : Int) <= 1000000 := by omega
 clear hj
 go_enter func36, ntmps36
 go_upto_region 1 with (fail)
 have hb := zg_.new w #[.int .i64 j.w, .int .i64 j.l, .int .i64 j.d, .int .i64 j.c, .int .i64 j.k, .int .i64 j.e, .slice j.a j.n j.cap] 24
 have B1 : Below w.heap.size w (w.alloc (.cells #[.int .i64 j.w, .int .i64 j.l, .int .i64 j.d, .int .i64 j.c, .int .i64 j.k, .int .i64 j.e, .slice j.a j.n j.cap] 24)) := (Below.refl _ _).alloc (Nat.le_refl _) _
 generalize w.alloc (.cells #[.int .i64 j.w, .int .i64 j.l, .int .i64 j.d, .int .i64 j.c, .int .i64 j.k, .int .i64 j.e, .slice j.a j.n j.cap] 24) = W1 at hb B1 ⊢
 have c0 := hb.cell 0
 have c1 := hb.cell 1
 have c2 := hb.cell 2
 have c3 := hb.cell 3
 have c4 := hb.cell 4
 have c5 := hb.cell 5
 have c6 := hb.cell 6
 simp only [gtA, gtB, gtC] at c0 c1 c2 c3 c4 c5 c6
 have HB1 := hid B1
 have HBX := hid hb
 clear hb B1
 go_cut [3] (fun v wx => v = .bool (hB j) /\ W1 = wx)
 case first =>
  go_wp2_with (go_at_call 75; refine (zQ_ _ _ _ _).mono ?_; rintro e w' ⟨rfl, rfl⟩)
  all_goals
   go_meet
   case rel =>
    refine ⟨?_, rfl⟩
    rw [hB_eq]
    first | (simp [*]; done) | (simp [*]; intro h; omega)
 case rest =>
  obtain ⟨rfl, rfl⟩ := hcut
  obtain ⟨hb, hbe⟩ := gtx (hB j)
  rw [hbe]
  have HH := hid hbe
  clear hbe c0 c1 c2 c3 c4 c5
  go_wp2_with fail
  go_loopw [3, 50] (fun v i wr => ∃ k : Nat, k <= j.n /\ i = .int .i64 (k : Int) /\ v = .bool (hb && tB (j.T.take k)) /\ W1 = wr) (fun _ i _ => j.n - (intOf i).toNat)
  case atStart => exact ⟨0, by omega, rfl, by simp [tB], rfl⟩
  case round =>
   obtain ⟨k, hk, rfl, rfl, rfl⟩ := hrel
   obtain ⟨bk, hbk⟩ := gtx ((hb && tB (j.T.take k)))
   rw [hbk]
   by_cases hlt : k < j.n
   ·have hkl : (k : Int) < (j.n : Int) := by omega
    obtain ⟨b1, o1, ea, d1⟩ := (HJ.out.ls.below HB1.out).get k Xt54
    rw [ea] at c6
    obtain ⟨x, hx⟩ := gtx (j.T.getD k 0)
    rw [hx] at d1
    have HN := hid (show (hb && tB (j.T.take (k + 1))) = (bk && inB x 0 2) by rw [tB_take Xt54, ← Bool.and_assoc, hbk, hx])
    have HEA := hid ea
    rw [ea]
    clear hx hbk ea
    cases bk
    ·go_wp2_with fail
     exact Xb94
    ·go_wp2_with (go_at_call 75; refine (zQ_ _ _ _ _).mono ?_; rintro e w' ⟨rfl, rfl⟩)
     exact Xb94
   ·have hkl : ¬ (k : Int) < (j.n : Int) := by omega
    have HO := hid (show okB j = bk by rw [← hbk, List.take_of_length_le (by rw [HJ.out.len]; omega), okB, HH.out])
    clear hbk
    cases bk
    ·exact Xb125
    ·exact Xb125
def gB (j : Job) : Bool := decide (1 <= j.w /\ j.w <= 4 /\ 1 <= j.l /\ j.l <= 2 /\ j.l <= j.w /\ 3 <= j.d /\ j.d <= 15 /\ 1024 <= j.c /\ j.c <= 65536 /\ 1024 <= j.k /\ j.k <= 1048576 /\ 1 <= j.e /\ j.e <= 100)
theorem gB_and (j : Job) : hB j = (gB j && inB j.n 1 4) := by
 unfold hB gB inB
 rw [Bool.eq_iff_iff]
 simp
 omega
theorem tB_no {T : List Int} {k : Nat} (hk : k < T.length) (h : inB (T.getD k 0) 0 2 = false) : tB T = false :=
 tB_false (k := k + 1) (by rw [tB_take hk, h]; simp)
end Go.Proofs.YthmofoldmdafoaaGreat
