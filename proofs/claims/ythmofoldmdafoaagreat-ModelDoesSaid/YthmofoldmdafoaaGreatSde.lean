/- Part of the proof that ModelDoes holds for every input: tables, under any transactions, answer, write and stand as the document says. Part 5. -/
import Derived.Test.YthmofoldmdafoaaGreatSdd
set_option linter.unusedVariables false
set_option linter.unusedSimpArgs false
set_option maxRecDepth 100000
set_option maxHeartbeats 4000000
namespace Go.Proofs.YthmofoldmdafoaaGreat
open Go.ChangeShapes Go.WideShapes Go.ChangeAt Go.RowKit
open Go.Lib (hid)
open Go.Proofs.Tryz
section
open Go.Shelf
theorem entry_own (a b : Option Addr) (Lf Lk : List Int) (n m ca cb : Nat) (hf : Lf.length = n) (hkl : Lk.length = m) (hn : n <= 24) (hk : yw_ m = true) (w : World) (hA : Ls .u8 w a ca Lf) (hB : Ls .u8 w b cb Lk) :
  Calls prog 137 #[.slice a n ca, .slice b m cb] w fun r w' => ∃ a' c', r = .returned (.tuple #[.slice a' (zu_ Lf Lk).length c', .int .i64 0]) /\ w'.ownsRow w.heap.size 5 1 (.slice a' (zu_ Lf Lk).length c') (zu_ Lf Lk).length (iv .u8 (zu_ Lf Lk)) /\ Below w.heap.size w w' := by
 have HA := hid hA
 have HB := hid hB
 have HF := hid hf
 have HKL := hid hkl
 have HK := hid hk
 have hm32 : m <= 32 := by unfold yw_ at hk; simp at hk; omega
 have hfl := yr_ Lf
 have hE : zu_ Lf Lk = zk_ Lf ++ ([0, 1] ++ Lk) := rfl
 obtain ⟨F, hF⟩ := gtx (zk_ Lf)
 rw [hF] at hfl hE
 obtain ⟨E, hEE⟩ := gtx (zu_ Lf Lk)
 rw [hEE] at hE ⊢
 have HFF := hid hF
 have HE := hid hE
 obtain ⟨fl, hl⟩ := gtx (F.length)
 rw [hl] at hfl
 have HFLE := hid (show fl <= 48 by omega)
 have HL := hid hl
 clear hA hB hf hkl hk hF hE hEE hl hfl
 have h := j2_ a Lf n ca HF.out hn w HA.out
 rw [HFF.out, HL.out] at h
 go_enter func137, ntmps137
 go_wp2_with fail
 refine h.mono ?_; rintro e w' ⟨a', c', rfl, l', B⟩
 clear h
 go_wp2_with fail
 refine (zN_ _ _ _ _).mono ?_; rintro e w2 ⟨rfl, rfl⟩
 rw [HK.out]
 go_wp2_with fail
 have hfl2 : jd_ [⟨a', c', F⟩, ⟨some ⟨w'.heap.size, 0, none⟩, 2, [0, 1]⟩, ⟨b, cb, Lk⟩] = E := by rw [HE.out]; simp [jd_]
 have hlen : E.length = fl + (2 + m) := by rw [HE.out, List.length_append, List.length_append, HL.out, HKL.out]; rfl
 have BW := (Below.refl w'.heap.size w').alloc (Nat.le_refl _) (.cells #[.int .u8 0, .int .u8 1] 5)
 have hRR := rdR_new (w'.alloc (.cells #[.int .u8 0, .int .u8 1] 5)) [⟨a', c', F⟩, ⟨some ⟨w'.heap.size, 0, none⟩, 2, [0, 1]⟩, ⟨b, cb, Lk⟩] #[.slice a' fl c', .slice (some ⟨w'.heap.size, 0, none⟩) 2 2, .slice b m cb] 42 (0, 0) (by simp only [List.map_cons, List.map_nil, P1.v, HL.out, HKL.out]; rfl) (by
  intro p hp
  simp only [List.mem_cons, List.not_mem_nil, or_false] at hp
  rcases hp with rfl | rfl | rfl
  ·exact l'.below BW
  ·exact xa_ .u8 w' [0, 1] _ _ _ rfl 2 rfl
  ·exact HB.out.below (B.trans (BW.mono B.size)))
 rw [World.size_alloc] at hRR
 have hj := join_own (some ⟨w'.heap.size + 1, 0, none⟩) [⟨a', c', F⟩, ⟨some ⟨w'.heap.size, 0, none⟩, 2, [0, 1]⟩, ⟨b, cb, Lk⟩] 3 3 rfl Xt0 (by rw [hfl2, hlen]; have := HFLE.out; omega) _ hRR
 rw [hfl2] at hj
 have HJ := hid hj
 clear hj hfl2 hlen
 refine HJ.out.mono ?_; rintro e w3 ⟨a3, c3, rfl, _, o3, B3⟩
 obtain ⟨el, hel⟩ := gtx (E.length)
 rw [hel]
 have HEL := hid hel
 clear hel
 have HO := hid (xW_ (show w.heap.size <= _ by have h1 := B.size; have h2 := BW.size; simp at h2 ⊢; omega) o3)
 clear o3
 have B4 := za_ B (za_ BW (za_ ((Below.refl _ _).alloc (Nat.le_refl _) _) B3))
 go_wp2_with fail
 go_ret2
 exact ⟨a3, c3, by rw [HEL.out]; rfl, HO.out, B4⟩
abbrev E1 := Int × P1
def ev (L : List E1) : List Value := L.flatMap fun p => [.int .i64 p.1, p.2.v]
theorem ev_append (a b : List E1) : ev (a ++ b) = ev a ++ ev b := by simp [ev]
theorem ev_at (l : List E1) : ∀ (k : Nat) (p : E1), l[k]? = some p -> (ev l)[k * 2]? = some (.int .i64 p.1) /\ (ev l)[k * 2 + 1]? = some p.2.v := by
 induction l with
 | nil => intro k p h; simp at h
 | cons q r ih =>
  intro k p h
  cases k with
  | zero => simp at h; subst h; simp [ev]
  | succ k =>
   have h' : r[k]? = some p := by simpa using h
   have := ih k p h'
   simp only [ev, List.flatMap_cons, List.cons_append, List.nil_append] at this ⊢
   rw [show (k + 1) * 2 = k * 2 + 1 + 1 by omega]
   simpa using this
theorem info91 : (prog.info? 192).map (fun i => (i.zero, i.size, i.bytes)) = some (some (.agg #[.int .i64 0, .slice none 0 0]), 2, 32) := by kernel_rfl
def EnR (W : World) (a : Option Addr) (L : List E1) : Prop := ∀ (k : Nat) (p : E1), L[k]? = some p -> ∃ b off, a = some ⟨b, off, none⟩ /\ W.cell? ⟨b, off + k * 2, none⟩ = some (.int .i64 p.1) /\ W.cell? ⟨b, off + k * 2 + 1, none⟩ = some p.2.v /\ Ls .u8 W p.2.ad p.2.cap p.2.bs
theorem own_enr {w : World} {base n : Nat} {v : Value} {l : List E1} (h : w.ownsRow base 192 2 v n (ev l)) (hn : l.length = n) (hl : ∀ p ∈ l, Ls .u8 w p.2.ad p.2.cap p.2.bs) : ∃ a cap, v = .slice a n cap /\ EnR w a l := by
 have h' := h
 rcases h.2 with ⟨e, h0⟩ | ⟨g, cap, cur, rfl, hg, _, hc, _⟩
 ·exact Xb98
 ·refine ⟨_, cap, rfl, fun k p hp => ⟨g, 0, rfl, ?_, ?_, hl p (List.mem_of_getElem? hp)⟩⟩
  ·have hk := (List.getElem?_eq_some_iff.1 hp).1
   rw [Nat.zero_add, h'.cellAt (k * 2) Xt0]
   exact (ev_at l k p hp).1
  ·have hk := (List.getElem?_eq_some_iff.1 hp).1
   rw [Nat.zero_add, h'.cellAt (k * 2 + 1) Xt0]
   exact (ev_at l k p hp).2
def enS (L : List E1) : List (Int × List Int) := L.map fun p => (p.1, p.2.bs)
def Qi_ (f m : Nat) (R : List P1) (K : List Int) : List (Int × List Int) := (List.range m).map fun (i : Nat) => (((f + 1 + i : Nat) : Int), zu_ ((R.map P1.bs).getD (i + 1) []) K)
theorem entL_succ (f m : Nat) (R : List P1) (K : List Int) : Qi_ f (m + 1) R K = Qi_ f m R K ++ [(((f + 1 + m : Nat) : Int), zu_ ((R.map P1.bs).getD (m + 1) []) K)] := by simp [Qi_, List.range_succ]
theorem yV_ (f m : Nat) (R : List P1) (K : List Int) : (Qi_ f m R K).length = m := by simp [Qi_]
def ja_ (R : List P1) : Bool := decide (R.length = 0) || yZ_ R
def Qh_ (j : Job) (t : Int) (R : List P1) (K : List Int) : List (Int × List Int) × Int :=
 if (trV j t (-1)).2.2.2 && yw_ K.length && ja_ R then (Qi_ (trV j t (-1)).1.toNat (min (j.T.getD t.toNat 0).toNat (R.length - 1)) R K, 0) else ([], 2)
theorem nmL_mem : ∀ (T : List Int) (s : Nat) (p : Int × Int), p ∈ nmL s T -> ∃ k, k < T.length /\ p.1 = ((s + k : Nat) : Int)
 | [], s, p, h => by simp [nmL] at h
 | x :: r, s, p, h => by
  simp only [nmL, List.mem_append] at h
  rcases h with h | h
  ·simp only [rowN, List.mem_map] at h
   obtain ⟨i, _, rfl⟩ := h
   exact ⟨0, by simp, by simp⟩
  ·obtain ⟨k, h1, h2⟩ := nmL_mem r (s + 1) p h
   exact ⟨k + 1, by simp; omega, by rw [h2]; congr 1; omega⟩
theorem jB_ {p : Tr -> Bool} : ∀ {l : List Tr}, (zO_ p l).2.2.2 = true -> ∃ x ∈ l, p x = true /\ zO_ p l = ((x.1 : Int), x.2.1, x.2.2, true)
 | [], h => by simp [zO_] at h
 | x :: r, h => by
  by_cases e : p x = true
  ·exact ⟨x, by simp, e, by rw [zO_, if_pos e]⟩
  ·rw [zO_, if_neg e] at h
   obtain ⟨y, h1, h2, h3⟩ := jB_ h
   exact ⟨y, by simp [h1], h2, by rw [zO_, if_neg e]; exact h3⟩
theorem trV_facts {j : Job} {t : Int} (hj : j.T.length = j.n) (h : (trV j t (-1)).2.2.2 = true) : ∃ k f : Nat, t = (k : Int) /\ k < j.T.length /\ okB j = true /\ f <= 12 /\ (trV j t (-1)).1 = (f : Int) := by
 obtain ⟨x, hx, hp, e⟩ := jB_ h
 have hn : okB j = true := by
  by_cases ho : okB j = true
  ·exact ho
  ·rw [qy_ (by simpa using ho)] at hx; simp [idx] at hx
 obtain ⟨i, h1, h2⟩ := j0_ _ _ _ hx
 have hm : (x.2.1, x.2.2) ∈ z7_ j := List.mem_of_getElem? h1
 rw [xo_ hn] at hm
 obtain ⟨k, h3, h4⟩ := nmL_mem _ _ _ hm
 have hp2 := of_decide_eq_true hp
 refine ⟨k, x.1, by rw [← hp2.1]; simpa using h4, h3, hn, ?_, by show (zO_ _ _).1 = _; rw [e]⟩
 have h5 := (List.getElem?_eq_some_iff.1 h1).1
 have := QB_ j hj
 omega
structure EnI (base f m : Nat) (R : List P1) (K : List Int) (v : Value) (wr : World) : Prop where
 ex : ∃ L : List E1, enS L = Qi_ f m R K /\ wr.ownsRow base 192 2 v m (ev L) /\ ∀ p ∈ L, wr.ownsRow base 5 1 p.2.v p.2.bs.length (iv .u8 p.2.bs)
theorem EnI.below {base f m : Nat} {R : List P1} {K : List Int} {v : Value} {w w' : World} (h : EnI base f m R K v w) (b : Below w.heap.size w w') : EnI base f m R K v w' := by
 obtain ⟨L, h1, h2, h3⟩ := h.ex
 exact ⟨L, h1, ze_ h2 b, fun p hp => ze_ (h3 p hp) b⟩
end
end Go.Proofs.YthmofoldmdafoaaGreat
namespace Go.Proofs.YthmofoldmdafoaaGreat.K8.SM
open Go.Lib (hid)
open Go.Proofs.Tryz
def wd (f : Nat -> Int) : Nat -> Int
 | 0 => 0
 | i + 1 => wd f i + f i * 2 ^ (56 - 8 * i)
end Go.Proofs.YthmofoldmdafoaaGreat.K8.SM
namespace Go.Proofs.YthmofoldmdafoaaGreat.K8
open Go.Lib (hid)
open Go.Proofs.Tryz
open Go.ChangeShapes Go.WideShapes Go.ChangeAt Go.RowKit
open SM
set_option linter.unusedVariables false
set_option linter.unusedSimpArgs false
theorem zc_ {a b : Bool} (h : a = b) : Ending.returned (.bool a) = .returned (.bool b) := by rw [h]
theorem za_ {w a b : World} (h : Below w.heap.size w a) (k : Below a.heap.size a b) : Below w.heap.size w b := h.trans (k.mono h.size)
def cnt (len : Nat) : Nat := (max len 1 - 1) / 8 + 1
def slW (f : Nat -> Int) (len i : Nat) : Int := wd (fun k => f (8 * i + k)) (min (len - 8 * i) 8)
def slL (len i : Nat) : Nat := min (len - 8 * i) 9
end Go.Proofs.YthmofoldmdafoaaGreat.K8
namespace Go.Proofs.YthmofoldmdafoaaGreat.K8
open Go.Lib (hid)
open Go.Proofs.Tryz
open Go.ChangeShapes Go.WideShapes Go.ChangeAt Go.RowKit
open SM
set_option linter.unusedVariables false
set_option linter.unusedSimpArgs false
def cmpV (a b : Int) : Int := if a < b then -1 else if b < a then 1 else 0
def cmpS (x m y n : Int) : Int := if cmpV x y ≠ 0 then cmpV x y else cmpV m n
end Go.Proofs.YthmofoldmdafoaaGreat.K8
namespace Go.Proofs.YthmofoldmdafoaaGreat.K8
open Go.Lib (hid)
open Go.Proofs.Tryz
open Go.ChangeShapes Go.WideShapes Go.ChangeAt Go.RowKit Go.Shelf
open SM
set_option linter.unusedVariables false
set_option linter.unusedSimpArgs false
attribute [local go_sem] Oper.semAt_some
theorem yA_ {w w' : World} (h : Below w.heap.size w w') : w.grownBy w' none := ⟨h.os, h.tape, h.output, h.size, fun k hk _ => h.block k hk⟩
def ofV (f : Nat -> Int) (len i : Nat) : Int × Int × Int := if i < cnt len then (slW f len i, (slL len i : Nat), 0) else (0, 0, 2)
def KC (Bo : Nat) (W W' : World) : Prop := W.heap.size <= W'.heap.size /\ ∀ j o, j ≠ Bo -> W.heap[j]? = some o -> o.isCells = true -> W'.heap[j]? = some o
abbrev Sl := Nat × Int × Int
def encs (x : Sl) : Array Value := #[.int .i64 (x.1 : Int), .agg #[.int .u64 x.2.1, .int .i64 x.2.2]]
theorem zF_ (b off j : Nat) : (⟨b, off, none⟩ : Addr).add j = ⟨b, off + j, none⟩ := by
 unfold Addr.add
 by_cases h : j = 0 <;> simp [h]
end Go.Proofs.YthmofoldmdafoaaGreat.K8
namespace Go.Proofs.YthmofoldmdafoaaGreat.K8
open Go.Lib (hid)
open Go.Proofs.Tryz
open Go.ChangeShapes Go.WideShapes Go.ChangeAt Go.RowKit Go.Shelf
open SM
set_option linter.unusedVariables false
set_option linter.unusedSimpArgs false
attribute [local go_sem] Oper.semAt_some
theorem jg_ {n : Nat} {P : Program} {c : Code} {Q : Exit -> Act -> World -> Prop} {a : Act} {w : World} (h : c.wpIn Fence.wide n P (Exit.noGoto Q) a w) : (Code.scope c).wpIn Fence.wide n P Q a w :=
 wpIn_wide.2 (wp_scope_straight (wpIn_wide.1 h))
theorem zf_ {W W' : World} {B : Nat} {t : TypeId} {v : Value} (h : Boxed W B t v) (hb : Below W.heap.size W W') : Boxed W' B t v := (hb.block B h.lt).trans h
def othV (fb : Nat -> Int) (lb : Nat) (x : Sl) : Int := cmpS x.2.1 x.2.2 (ofV fb lb x.1).1 (ofV fb lb x.1).2.1
def goes (fb : Nat -> Int) (lb : Nat) (x : Sl) : Prop := othV fb lb x = 0 /\ (ofV fb lb x.1).2.2 = 0
instance (fb : Nat -> Int) (lb : Nat) (x : Sl) : Decidable (goes fb lb x) := inferInstanceAs (Decidable (_ /\ _))
end Go.Proofs.YthmofoldmdafoaaGreat.K8
namespace Go.Proofs.YthmofoldmdafoaaGreat.K8
open Go.Lib (hid)
open Go.Proofs.Tryz
open SM
set_option linter.unusedVariables false
set_option linter.unusedSimpArgs false
def Both (fa : Nat -> Int) (la : Nat) (fb : Nat -> Int) (lb i : Nat) : Prop := 8 * i + 8 < la /\ 8 * i + 8 < lb /\ ∀ k < 8, fa (8 * i + k) = fb (8 * i + k)
def Sh (fa : Nat -> Int) (la : Nat) (fb : Nat -> Int) (lb n : Nat) : Prop := (∀ i < n, Both fa la fb lb i) /\ ¬ Both fa la fb lb n
end Go.Proofs.YthmofoldmdafoaaGreat.K8
namespace Go.Proofs.YthmofoldmdafoaaGreat
open Go.ChangeShapes Go.WideShapes Go.ChangeAt Go.RowKit
open Go.Lib (hid)
open Go.Proofs.Tryz
section
open Go.Shelf
end
section
open Go.Maps
structure RV where
 ra : Option Addr
 rc : Nat
 R : List P1
def RV.v (r : RV) : Value := .slice r.ra r.R.length r.rc
def RV.P (r : RV) : List (List Int) := r.R.map P1.bs
def x6_ (L : List (List Int × RV)) : List Pr := L.map fun x => (x.1, x.2.P)
def zH_ (K : List Int) : Prop := Byt K /\ 1 <= K.length /\ K.length <= 32
def rOk (R : List (List Int)) : Prop := 1 <= R.length /\ R.length <= 3 /\ ∀ f ∈ R, Byt f /\ f.length <= 24
def tOk (t : List Pr) : Prop := yf_ t /\ ∀ p ∈ t, zH_ p.1 /\ rOk p.2
theorem tOk.set {t : List Pr} (h : tOk t) {K : List Int} (hK : zH_ K) {R : List (List Int)} (hR : R ≠ [] -> rOk R) : tOk (xL_ t K R) := ⟨qJ_ h.1 K R, fun p hp => by
 rcases xp_.1 hp with hp | ⟨rfl, hr⟩
 ·exact h.2 p hp.1
 ·exact ⟨hK, hR hr⟩⟩
theorem jJ_ (L : List (List Int × RV)) (K : List Int) (r : RV) (hr : r.P ≠ []) : x6_ (x7_ L K (some r)) = xL_ (x6_ L) K r.P := by
 unfold x6_ x7_ xL_
 rw [if_neg hr]
 simp only [List.map_append, List.filter_map]
 rfl
theorem tabP_del (L : List (List Int × RV)) (K : List Int) : x6_ (x7_ L K none) = xL_ (x6_ L) K [] := by
 unfold x6_ x7_ xL_
 rw [if_pos rfl]
 simp only [List.map_append, List.filter_map]
 rfl
theorem tabP_get (L : List (List Int × RV)) (K : List Int) : xd_ (x6_ L) K = (yc_ L K).map RV.P := by
 unfold x6_ xd_ yc_
 rw [List.find?_map]
 have : ((fun p : Pr => decide (p.1 = K)) ∘ fun x : List Int × RV => (x.1, x.2.P)) = fun x => decide (x.1 = K) := rfl
 rw [this]
 cases List.find? (fun x => decide (x.1 = K)) L <;> rfl
structure Md where
 p : Nat
 j : Job
 bt : Nat
 tc : Nat
 tabs : List (Nat × List (List Int × RV))
def Md.cs (m : Md) : Array Value := #[.int .i64 m.j.w, .int .i64 m.j.l, .int .i64 m.j.d, .int .i64 m.j.c, .int .i64 m.j.k, .int .i64 m.j.e, .slice m.j.a m.j.n m.j.cap, .slice (some ⟨m.bt, 0, none⟩) m.tabs.length m.tc]
def Md.P (m : Md) : List (List Pr) := m.tabs.map fun x => x6_ x.2
structure MdS (m : Md) (W : World) : Prop where
 box : zg_ W m.p m.cs 89
 tab : ∀ k x, m.tabs[k]? = some x -> W.cell? ⟨m.bt, k, none⟩ = some (.map (some x.1))
 job : yb_ W m.j
structure MdR (S : Nat -> Prop) (W : World) (m : Md) : Prop where
 st : zs_ S W (MdS m)
 maps : ∀ x ∈ m.tabs, Mp W x.1 RV.v x.2
 rows : ∀ x ∈ m.tabs, ∀ e ∈ x.2, zs_ S W (fun W' => RdR W' e.2.ra e.2.R)
 ok : okB m.j = true
 len : m.tabs.length = m.j.n
 cap : m.tabs.length <= m.tc
 nod : (m.tabs.map Prod.fst).Nodup
 hS : ∀ x ∈ m.tabs, S x.1
 lim : ∀ x ∈ m.tabs, tOk (x6_ x.2)
theorem MdR.off {S S' T : Nat -> Prop} {W W' : World} {m : Md} (h : MdR S W m) (o : Off T W W') (hT : ∀ k, T k -> S k) (hm : ∀ x ∈ m.tabs, ¬ T x.1) (hs : ∀ k, S' k -> S k ∨ W.heap.size <= k) (hs' : ∀ x ∈ m.tabs, S' x.1) : MdR S' W' m :=
 ⟨h.st.step (o.mono hT) hs, fun x hx => (h.maps x hx).off o (hm x hx), fun x hx e he => (h.rows x hx e he).step (o.mono hT) hs, h.ok, h.len, h.cap, h.nod, hs', h.lim⟩
theorem MdR.below {S : Nat -> Prop} {W W' : World} {m : Md} (h : MdR S W m) (b : Below W.heap.size W W') : MdR S W' m := h.off (T := fun _ => False) (Off.of b) (fun _ h => h.elim) (fun _ _ h => h) (fun _ h => .inl h) h.hS
theorem Md.P_len (m : Md) : m.P.length = m.tabs.length := by simp [Md.P]
theorem MdR.c {S : Nat -> Prop} {W : World} {m : Md} (h : MdR S W m) : W.cell? ⟨m.p, 7, none⟩ = some (.slice (some ⟨m.bt, 0, none⟩) m.tabs.length m.tc) := by
 rw [h.st.now.box.cell]; rfl
theorem MdR.few {S : Nat -> Prop} {W : World} {m : Md} (h : MdR S W m) : 1 <= m.tabs.length /\ m.tabs.length <= 4 := by
 rw [h.len]; exact okB_n h.ok
theorem yE_ {S : Nat -> Prop} {m : Md} {w : World} (h : MdR S w m) : Calls prog 51 #[.pointer (some ⟨m.p, 0, none⟩)] w fun e w' => e = .returned (.bool false) /\ w = w' := by
 have h0 := h.c
 have h1 := h.few
 have h2 : ((m.tabs.length : Int) == 0) = false := by simp; intro e; rw [e] at h1; simp at h1
 clear h
 go_enter func51, ntmps51
 exact Xb27
theorem yQ_ {S : Nat -> Prop} {m : Md} {w : World} (h : MdR S w m) (t : Int) : Calls prog 52 #[.pointer (some ⟨m.p, 0, none⟩), .int .i64 t] w fun e w' => e = .returned (.bool (decide (0 <= t /\ t < m.tabs.length))) /\ w = w' := by
 have h0 := h.c
 have HM := hid (yE_ h)
 have h1 := h.few
 clear h
 by_cases a : 0 <= t
 ·by_cases b : t < (m.tabs.length : Int)
  ·have HE := hid (show decide (0 <= t /\ t < (m.tabs.length : Int)) = true by simp [a, b])
   exact Xb31
  ·have HE := hid (show decide (0 <= t /\ t < (m.tabs.length : Int)) = false by simp; intro _; omega)
   exact Xb31
 ·have HE := hid (show decide (0 <= t /\ t < (m.tabs.length : Int)) = false by simp; intro _; omega)
  exact Xb31
end
structure TbV where
 pa : Option Addr
 pc : Nat
 P : List PrV
def tbC (x : TbV) : List Pr := x.P.map prC
structure TbOk (x : TbV) : Prop where
 pn : x.P.length <= 1000000
 ps : ∀ p ∈ x.P, Qd_ p
def TbR (W : World) (a : Option Addr) (L : List TbV) : Prop := ∀ (k : Nat) (x : TbV), L[k]? = some x -> ∃ b off, a = some ⟨b, off, none⟩ /\ W.cell? ⟨b, off + k, none⟩ = some (.slice x.pa x.P.length x.pc) /\ zn_ W x.pa x.P
theorem TbR.below {W W' : World} {a : Option Addr} {L : List TbV} (h : TbR W a L) (hb : Below W.heap.size W W') : TbR W' a L := fun k x hx => by
 obtain ⟨b, off, e, c0, r⟩ := h k x hx
 exact ⟨b, off, e, tcb hb c0, r.below hb⟩
theorem qM_ (a b : Option Addr) (L M : List TbV) (n m ca cb : Nat) (hn : L.length = n) (hm : M.length = m) (hn2 : n <= 1000000) (hm2 : m <= 1000000) (okL : ∀ x ∈ L, TbOk x) (okM : ∀ x ∈ M, TbOk x) (w : World) (hA : TbR w a L) (hB : TbR w b M) :
  Calls prog 45 #[.slice a n ca, .slice b m cb] w fun r w' => r = .returned (.bool (decide (L.map tbC = M.map tbC))) /\ Below w.heap.size w w' := by
 have HR := hid (And.intro hA hB)
 have HN := hid (And.intro hn hm)
 have HOK := hid (And.intro okL okM)
 have hni : (n : Int) <= 1000000 := by omega
 have hmi : (m : Int) <= 1000000 := by omega
 clear hA hB hn hm okL okM
 by_cases hnm : n = m
 ·subst hnm
  have e4 : ((n : Int) != (n : Int)) = false := by simp
  go_enter func45, ntmps45
  go_wp2_with fail
  clear e4
  go_loopw [5] (fun i wr => ∃ k : Nat, k <= n /\ i = .int .i64 (k : Int) /\ Hid ((L.take k).map tbC = (M.take k).map tbC) /\ Hid (Below w.heap.size w wr)) (fun i _ => n - (intOf i).toNat)
  case atStart => exact ⟨0, by omega, rfl, hid rfl, hid (Below.refl _ _)⟩
  case round =>
   obtain ⟨k, hk, rfl, HE, HBW⟩ := hrel
   by_cases hlt : k < n
   ·have d1 : (k : Int) < (n : Int) := by omega
    obtain ⟨x, hx⟩ : ∃ x, L[k]? = some x := ⟨_, List.getElem?_eq_getElem Xt69⟩
    obtain ⟨y, hy⟩ : ∃ y, M[k]? = some y := ⟨_, List.getElem?_eq_getElem Xt70⟩
    obtain ⟨b1, o1, ea, c0, rx⟩ := (HR.out.1.below HBW.out) k x hx
    subst ea
    obtain ⟨b2, o2, eb, e0, ry⟩ := (HR.out.2.below HBW.out) k y hy
    subst eb
    have okx := HOK.out.1 x (List.mem_of_getElem? hx)
    have oky := HOK.out.2 y (List.mem_of_getElem? hy)
    have HXY := hid (And.intro hx hy)
    have HRS := hid (fun W (b : Below wr.heap.size wr W) => yz_ x.pa y.pa x.P y.P x.P.length y.P.length x.pc y.pc rfl rfl okx.pn oky.pn okx.ps oky.ps W (rx.below b) (ry.below b))
    obtain ⟨q, hq⟩ := gtx (decide (x.P.map prC = y.P.map prC))
    rw [hq] at HRS
    have HQ := hid hq
    have HPC := hid (show tbC x = x.P.map prC /\ tbC y = y.P.map prC from ⟨rfl, rfl⟩)
    obtain ⟨xrn, hxrn⟩ := gtx (x.P.length)
    obtain ⟨xra, hxra⟩ := gtx (x.pa)
    obtain ⟨xrc, hxrc⟩ := gtx (x.pc)
    obtain ⟨yrn, hyrn⟩ := gtx (y.P.length)
    obtain ⟨yra, hyra⟩ := gtx (y.pa)
    obtain ⟨yrc, hyrc⟩ := gtx (y.pc)
    rw [hxra, hxrn, hxrc] at c0
    rw [hyra, hyrn, hyrc] at e0
    rw [hxra, hyra, hxrn, hyrn, hxrc, hyrc] at HRS
    have HX5 := hid (fun W (b : Below wr.heap.size wr W) => tcb b c0)
    have HY5 := hid (fun W (b : Below wr.heap.size wr W) => tcb b e0)
    clear c0 e0 rx ry okx oky hx hy hq hxrn hxra hxrc hyrn hyra hyrc
    go_upto_region 6 with (fail)
    rename_i KK hKK
    refine wmo ?_
    refine rgw wr (Below.refl _ _).drew fun hH => ?_
    refine tkq3 0 1 2 ?_
    refine tkr 3 rfl (fun W hSw => by have c0 := HX5.out W hSw; exact tks) ?_
    refine tkq3 4 5 6 ?_
    refine tkr 7 rfl (fun W hSw => by have e0 := HY5.out W hSw; exact tks) ?_
    refine tk1 8 rfl fun K hK => ?_
    go_simp
    refine (HRS.out _ hH).mono ?_; rintro e9 w9 ⟨rfl, hb9⟩
    go_wp2_with fail
    refine hK.out _ _ (za_ hH hb9) fun hH => ?_
    clear hb9
    refine stP ?_
    refine tkq 9 ?_
    refine adn ?_
    skip
    refine hKK _ _ ?_
    have HB9 := hid (za_ HBW.out hH)
    clear hH
    cases q
    ·have HV := hid (show decide (L.map tbC = M.map tbC) = false by
      rw [decide_eq_false_iff_not]
      refine y8_ HXY.out.1 HXY.out.2 ?_
      rw [HPC.out.1, HPC.out.2]
      exact of_decide_eq_false HQ.out)
     exact Xb45
    ·have HEN := hid (show (L.take (k + 1)).map tbC = (M.take (k + 1)).map tbC by
      rw [List.take_add_one, List.take_add_one, HXY.out.1, HXY.out.2, List.map_append, List.map_append, HE.out]
      simp only [Option.toList_some, List.map_cons, List.map_nil, HPC.out.1, HPC.out.2, of_decide_eq_true HQ.out])
     exact Xb49
   ·have d1 : ¬ (k : Int) < (n : Int) := by omega
    have HV := hid (show decide (L.map tbC = M.map tbC) = true by
     have h1 := HE.out
     rw [List.take_of_length_le (by rw [HN.out.1]; omega), List.take_of_length_le (by rw [HN.out.2]; omega)] at h1
     rw [decide_eq_true_eq]; exact h1)
    exact Xb80
 ·have e4 : ((n : Int) != (m : Int)) = true := by rw [bne_iff_ne]; omega
  have HV := hid (show decide (L.map tbC = M.map tbC) = false by
   rw [decide_eq_false_iff_not]
   intro e9
   have := congrArg List.length e9
   rw [List.length_map, List.length_map, HN.out.1, HN.out.2] at this
   exact hnm this)
  clear hnm
  go_enter func45, ntmps45
  exact Xb73
def xe_ (K : List Int) (P : List PrV) : Nat := (P.takeWhile fun y => ltL y.K K).length
def x9_ (K : List Int) (P : List PrV) : Bool := match P[xe_ K P]? with
 | some y => decide (y.K = K)
 | none => false
theorem cntL_at {K : List Int} : ∀ {P : List PrV} {k : Nat}, (∀ y ∈ P.take k, ltL y.K K = true) -> k <= P.length -> (∀ y, P[k]? = some y -> ltL y.K K = false) -> xe_ K P = k
 | [], k, _, hk, _ => by simp at hk; subst hk; rfl
 | x :: P, 0, _, _, h => by
  unfold xe_
  rw [List.takeWhile_cons_of_neg (by rw [h x rfl]; decide)]; rfl
 | x :: P, k + 1, ha, hk, h => by
  have h1 := ha x Xt5
  have ih := cntL_at (K := K) (P := P) (k := k) (fun y hy => ha y (by simp [hy])) (by simpa using hk) (fun y hy => h y (by simpa using hy))
  unfold xe_ at *
  rw [List.takeWhile_cons_of_pos (p := fun y : PrV => ltL y.K K) h1, List.length_cons, ih]
theorem Qs_ (p : Nat) (ta ka : Option Addr) (tn tc kn kc t : Nat) (Ts : List TbV) (x : TbV) (K : List Int) (hx : Ts[t]? = some x) (hn : Ts.length = tn) (hn2 : tn <= 1000000) (hK : K.length = kn) (bK : Byt K) (ok : TbOk x) (w : World) (hc : w.cell? ⟨p, 7, none⟩ = some (.slice ta tn tc)) (hT : TbR w ta Ts) (hk : Ls .u8 w ka kc K) :
  Calls prog 59 #[.pointer (some ⟨p, 0, none⟩), .int .i64 (t : Int), .slice ka kn kc] w fun r w' => r = .returned (.tuple #[.int .i64 (xe_ K x.P : Int), .bool (x9_ K x.P)]) /\ Below w.heap.size w w' := by
 have htn : t < tn := by have := (List.getElem?_eq_some_iff.1 hx).1; omega
 obtain ⟨b1, o1, ea, c0, rx⟩ := hT t x hx
 subst ea
 have HM := hid (fun X (b' : Below w.heap.size w X) => (⟨(b'.cell (World.block_lt_of_cell? w _ hc)).trans hc, (b'.cell (World.block_lt_of_cell? w _ c0)).trans c0⟩ : X.cell? ⟨p, 7, none⟩ = some (.slice (some ⟨b1, o1, none⟩) tn tc) /\ X.cell? ⟨b1, o1 + t, none⟩ = some (.slice x.pa x.P.length x.pc)))
 have HP := hid rx
 have HOK := hid ok
 have HKK := hid (And.intro hK hk)
 have HBK := hid bK
 obtain ⟨P, hP⟩ := gtx (x.P)
 obtain ⟨n, hn9⟩ := gtx (P.length)
 obtain ⟨pa, hpa⟩ := gtx (x.pa)
 obtain ⟨pc, hpc⟩ := gtx (x.pc)
 have hpn : n <= 1000000 := by rw [← hn9, ← hP]; exact ok.pn
 have hps := ok.ps
 rw [hP] at hps
 have HPS := hid hps
 rw [hpa, hP, hn9, hpc] at HM
 rw [hpa, hP] at HP
 have HN := hid hn9
 have hni : (n : Int) <= 1000000 := by omega
 have hti : (t : Int) < (tn : Int) := by omega
 have htl : (tn : Int) <= 1000000 := by omega
 rw [hP]
 clear hx hn hn2 hK bK ok hc hT hk c0 rx hP hn9 hpa hpc hps HOK
 go_enter func59, ntmps59
 go_wp2_with fail
 go_loopw [8] (fun i wr => ∃ k : Nat, k <= n /\ i = .int .i64 (k : Int) /\ Hid (∀ y ∈ P.take k, ltL y.K K = true) /\ Hid (Below w.heap.size w wr)) (fun i _ => n - (intOf i).toNat)
 case atStart => exact ⟨0, by omega, rfl, hid Xt77, hid (Below.refl _ _)⟩
 case round =>
  obtain ⟨k, hk, rfl, HA, HBW⟩ := hrel
  have HM5 := hid (fun W (b : Below wr.heap.size wr W) => HM.out W (za_ HBW.out b))
  by_cases hlt : k < n
  ·have d1 : (k : Int) < (n : Int) := by omega
   obtain ⟨y, hy⟩ : ∃ y, P[k]? = some y := ⟨_, List.getElem?_eq_getElem Xt9⟩
   obtain ⟨b2, o2, eb, e0, _, ly, _⟩ := (HP.out.below HBW.out) k y hy
   subst eb
   have oky := HPS.out y (List.mem_of_getElem? hy)
   have HYY := hid hy
   obtain ⟨q, hq⟩ := gtx (ltL y.K K)
   obtain ⟨z, hz⟩ := gtx (decide (y.K = K))
   have HLT := hid hq
   have HEQ := hid hz
   have HQ := hid (show Op.bytesLess (strOfNums y.K).toList (strOfNums K).toList = q by rw [yg_ oky.kb HBK.out]; exact hq)
   have HZ := hid (show ((strOfNums y.K).toList == (strOfNums K).toList) = z by
    rw [← hz]
    apply Bool.eq_iff_iff.2
    rw [beq_iff_eq, decide_eq_true_eq, ByteArray.toList_eq, ByteArray.toList_eq]
    exact ⟨fun h => qd_ oky.kb HBK.out (bytes_inj h), fun h => by rw [h]⟩)
   obtain ⟨YK, hYK⟩ := gtx (y.K)
   obtain ⟨ykn, hykn⟩ := gtx (YK.length)
   obtain ⟨yka, hyka⟩ := gtx (y.ka)
   obtain ⟨ykc, hykc⟩ := gtx (y.kc)
   rw [hyka, hYK, hykn, hykc] at e0
   rw [hyka, hYK, hykc] at ly
   rw [hYK] at HQ HZ
   have HKY := hid (And.intro hykn ly)
   have HY5 := hid (fun W (b : Below wr.heap.size wr W) => tcb b e0)
   clear e0 ly oky hy hq hz hYK hykn hyka hykc
   go_upto_region 2 with (fail)
   rename_i KK hKK
   refine wmo ?_
   refine rgw wr (Below.refl _ _).drew fun hH => ?_
   refine tkq4 0 1 2 3 ?_
   refine tkr 4 rfl Xf18 ?_
   refine tkq2 5 6 ?_
   refine tkr 7 rfl Xf18 ?_
   refine tkq 8 ?_
   refine tkp 9 (.bool true) rfl (.inl ⟨by rfl, ?_⟩) ?_
   ·exact Xb30
   refine tkp 10 (.bool true) rfl (.inl ⟨by rfl, ?_⟩) ?_
   ·exact Xb30
   refine tkq3 11 12 13 ?_
   refine tkr 14 rfl Xf18 ?_
   refine tkq2 15 16 ?_
   refine tkr 17 rfl Xf18 ?_
   refine tkq3 18 19 20 ?_
   refine tkr 21 rfl (fun W hSw => by have e0 := HY5.out W hSw; exact tks) ?_
   refine tkr 22 rfl Xf23 ?_
   refine tkq 23 ?_
   refine tkr 24 rfl (fun W hSw => by have hcv := zA_ W ka kn kc K HKK.out.1 (HKK.out.2.below (za_ HBW.out hSw)).rd; exact tks) ?_
   refine tkp 25 (.bool q) rfl (.inl ⟨by rfl, ?_⟩) ?_
   ·intro W hSw; go_simp; try (first | exact HQ.out | rfl)
   refine tkq 26 ?_
   refine adn ?_
   skip
   refine hKK _ _ ?_
   obtain ⟨w9, hw9⟩ := gty (wr.drew)
   try rw [← hw9] at hH ⊢
   have hHB9 : Below wr.heap.size wr w9 := hH
   have HB9 := hid (za_ HBW.out hHB9)
   clear hH hw9
   cases q
   ·have HC := hid (cntL_at HA.out (by rw [HN.out]; exact hk) (fun y' hy' => by rw [HYY.out] at hy'; cases hy'; exact HLT.out))
    have HH := hid (show x9_ K P = z by unfold x9_; rw [HC.out, HYY.out]; exact HEQ.out)
    go_upto_region 4 with (fail)
    have HM9 := hid (fun W (b : Below w9.heap.size w9 W) => HM5.out W (za_ hHB9 b))
    have HY9 := hid (fun W (b : Below w9.heap.size w9 W) => HY5.out W (za_ hHB9 b))
    rename_i KK hKK
    refine wmo ?_
    refine rgw w9 (Below.refl _ _).drew fun hH => ?_
    refine tkq4 0 1 2 3 ?_
    refine tkq 4 ?_
    refine tkr 5 rfl Xf19 ?_
    refine tkq2 6 7 ?_
    refine tkr 8 rfl Xf19 ?_
    refine tkq 9 ?_
    refine tkp 10 (.bool true) rfl (.inl ⟨by rfl, ?_⟩) ?_
    ·exact Xb30
    refine tkp 11 (.bool true) rfl (.inl ⟨by rfl, ?_⟩) ?_
    ·exact Xb30
    refine tkq3 12 13 14 ?_
    refine tkr 15 rfl Xf19 ?_
    refine tkq2 16 17 ?_
    refine tkr 18 rfl Xf19 ?_
    refine tkq3 19 20 21 ?_
    refine tkr 22 rfl (fun W hSw => by have e0 := HY9.out W hSw; exact tks) ?_
    refine tkr 23 rfl (fun W hSw => by have hcv := zA_ W yka ykn ykc YK HKY.out.1 (HKY.out.2.below (za_ hHB9 hSw)).rd; exact tks) ?_
    refine tkq 24 ?_
    refine tkr 25 rfl (fun W hSw => by have hcv := zA_ W ka kn kc K HKK.out.1 (HKK.out.2.below (za_ HB9.out hSw)).rd; exact tks) ?_
    refine tkp 26 (.bool z) rfl (.inl ⟨by rfl, ?_⟩) ?_
    ·intro W hSw; go_simp; try (first | exact HZ.out | rfl)
    exact Xb63
   ·have HA1 := hid (show ∀ y ∈ P.take (k + 1), ltL y.K K = true from fun y' hy' => by
     rw [List.take_add_one, HYY.out] at hy'
     rcases List.mem_append.1 hy' with h | h
     ·exact HA.out y' h
     ·have h : y' = y := by simpa using h
      rw [h]; exact HLT.out)
    go_wp2_with fail
    go_roundw
    case rel => exact ⟨k + 1, by omega, by go_num, HA1, HB9⟩
    case measure => simp [intOf]; omega
  ·have d1 : ¬ (k : Int) < (n : Int) := by omega
   have HC := hid (cntL_at HA.out (by rw [HN.out]; exact hk) (fun y' hy' => by have := (List.getElem?_eq_some_iff.1 hy').1; have := HN.out; omega))
   have HH := hid (show x9_ K P = false by unfold x9_; rw [HC.out, List.getElem?_eq_none Xt23])
   go_upto_region 2 with (fail)
   rename_i KK hKK
   refine wmo ?_
   refine rgw wr (Below.refl _ _).drew fun hH => ?_
   refine tkq4 0 1 2 3 ?_
   refine tkr 4 rfl Xf18 ?_
   refine tkq2 5 6 ?_
   refine tkr 7 rfl Xf18 ?_
   refine tkq 8 ?_
   refine tkp 9 (.bool false) rfl (.inl ⟨by rfl, ?_⟩) ?_
   ·exact Xb30
   refine tkp 10 (.bool false) rfl (.inl ⟨by rfl, ?_⟩) ?_
   ·exact Xb30
   refine tkn 11 ?_
   refine tkn 12 ?_
   refine tkn 13 ?_
   refine tkn 14 ?_
   refine tkn 15 ?_
   refine tkn 16 ?_
   refine tkn 17 ?_
   refine tkn 18 ?_
   refine tkn 19 ?_
   refine tkn 20 ?_
   refine tkn 21 ?_
   refine tkn 22 ?_
   refine tkn 23 ?_
   refine tkn 24 ?_
   refine tkn 25 ?_
   refine tkq 26 ?_
   refine adn ?_
   skip
   refine hKK _ _ ?_
   obtain ⟨w9, hw9⟩ := gty (wr.drew)
   try rw [← hw9] at hH ⊢
   have hHB9 : Below wr.heap.size wr w9 := hH
   have HB9 := hid (za_ HBW.out hHB9)
   clear hH hw9
   go_upto_region 4 with (fail)
   have HM9 := hid (fun W (b : Below w9.heap.size w9 W) => HM5.out W (za_ hHB9 b))
   rename_i KK hKK
   refine wmo ?_
   refine rgw w9 (Below.refl _ _).drew fun hH => ?_
   refine tkq4 0 1 2 3 ?_
   refine tkq 4 ?_
   refine tkr 5 rfl Xf19 ?_
   refine tkq2 6 7 ?_
   refine tkr 8 rfl Xf19 ?_
   refine tkq 9 ?_
   refine tkp 10 (.bool false) rfl (.inl ⟨by rfl, ?_⟩) ?_
   ·exact Xb30
   refine tkp 11 (.bool false) rfl (.inl ⟨by rfl, ?_⟩) ?_
   ·exact Xb30
   refine tkn 12 ?_
   refine tkn 13 ?_
   refine tkn 14 ?_
   refine tkn 15 ?_
   refine tkn 16 ?_
   refine tkn 17 ?_
   refine tkn 18 ?_
   refine tkn 19 ?_
   refine tkn 20 ?_
   refine tkn 21 ?_
   refine tkn 22 ?_
   refine tkn 23 ?_
   refine tkn 24 ?_
   refine tkn 25 ?_
   refine tkn 26 ?_
   exact Xb63
theorem yD_ {W : World} {base base' n s : Nat} {e : TypeId} {v : Value} {xs : List Value} (h : W.ownsRow base e s v n xs) (hb : base' <= base) : W.ownsRow base' e s v n xs := ⟨h.1, h.2.imp id fun ⟨g, cap, cur, e0, b0, r⟩ => ⟨g, cap, cur, e0, Nat.le_trans hb b0, r⟩⟩
theorem CpR.lo {base base' k : Nat} {R : List P1} {v : Value} {W : World} (h : CpR base R k v W) (hb : base' <= base) : CpR base' R k v W := by
 obtain ⟨R', h1, h2, h3⟩ := h.ex
 exact ⟨R', h1, yD_ h2 hb, fun p hp => yD_ (h3 p hp) hb⟩
def GetR (w : World) (o : Option (List P1)) (r : Ending) (w' : World) : Prop :=
 (match o with
  | some R => ∃ v, r = .returned (.tuple #[v, .bool true]) /\ CpR w.heap.size R R.length v w'
  | none => r = .returned (.tuple #[.slice none 0 0, .bool false])) /\ Below w.heap.size w w'
def getP (K : List Int) (P : List PrV) : Option (List P1) := if x9_ K P then (P[xe_ K P]?).map PrV.R else none
theorem getP_no {K : List Int} {P : List PrV} (h : x9_ K P = false) : getP K P = none := by unfold getP; rw [h]; rfl
theorem getP_yes {K : List Int} {P : List PrV} (h : x9_ K P = true) : ∃ y, P[xe_ K P]? = some y /\ getP K P = some y.R := by
 unfold getP
 rw [h]
 unfold x9_ at h
 cases hy : P[xe_ K P]? with
 | none => rw [hy] at h; cases h
 | some y => exact ⟨y, rfl, rfl⟩
theorem rget_law (p : Nat) (ta ka : Option Addr) (tn tc kn kc t : Nat) (Ts : List TbV) (x : TbV) (K : List Int) (hx : Ts[t]? = some x) (hn : Ts.length = tn) (hn2 : tn <= 1000000) (hK : K.length = kn) (bK : Byt K) (ok : TbOk x) (hl : ∀ y ∈ x.P, y.R.length <= 9000 /\ ∀ q ∈ y.R, q.bs.length <= 9000) (w : World) (hc : w.cell? ⟨p, 7, none⟩ = some (.slice ta tn tc)) (hT : TbR w ta Ts) (hk : Ls .u8 w ka kc K) :
  Calls prog 19 #[.pointer (some ⟨p, 0, none⟩), .int .i64 (t : Int), .slice ka kn kc] w (GetR w (getP K x.P)) := by
 have htn : t < tn := by have := (List.getElem?_eq_some_iff.1 hx).1; omega
 have HF := hid (Qs_ p ta ka tn tc kn kc t Ts x K hx hn hn2 hK bK ok w hc hT hk)
 obtain ⟨b1, o1, ea, c0, rx⟩ := hT t x hx
 subst ea
 have HM := hid (fun X (b' : Below w.heap.size w X) => (⟨(b'.cell (World.block_lt_of_cell? w _ hc)).trans hc, (b'.cell (World.block_lt_of_cell? w _ c0)).trans c0⟩ : X.cell? ⟨p, 7, none⟩ = some (.slice (some ⟨b1, o1, none⟩) tn tc) /\ X.cell? ⟨b1, o1 + t, none⟩ = some (.slice x.pa x.P.length x.pc)))
 have HP := hid rx
 have HL := hid hl
 have hti : (t : Int) < (tn : Int) := by omega
 have ht0 : ¬ (t : Int) < 0 := by omega
 have htl : (tn : Int) <= 1000000 := by omega
 have hpn : x.P.length <= 1000000 := ok.pn
 obtain ⟨m0, m1⟩ := HM.out w (Below.refl _ _)
 clear hx hn hn2 hK bK ok hl hc hT hk c0 rx
 go_enter func19, ntmps19
 go_wp2_with fail
 refine HF.out.mono ?_; rintro r w1 ⟨rfl, hb1⟩
 have HB1 := hid hb1
 clear m0 m1
 obtain ⟨m0, m1⟩ := HM.out w1 hb1
 clear hb1
 cases hh : x9_ K x.P
 ·have HG := hid (getP_no hh)
  clear hh
  go_wp2_with fail
  go_ret2
  exact ⟨by rw [HG.out]; rfl, HB1.out⟩
 ·obtain ⟨y, hy, hg⟩ := getP_yes hh
  have HG := hid hg
  have hk2 := (List.getElem?_eq_some_iff.1 hy).1
  obtain ⟨b2, o2, eb, _, e1, _, ry⟩ := (HP.out.below HB1.out) _ y hy
  have HPA := hid eb
  obtain ⟨l1, l2⟩ := HL.out y (List.mem_of_getElem? hy)
  have HRC := hid (xA_ y.ra y.R y.R.length y.rc rfl l1 l2 w1 ry)
  rw [eb] at m1
  obtain ⟨k, hk⟩ := gtx (xe_ K x.P)
  obtain ⟨pn, hpn2⟩ := gtx (x.P.length)
  rw [hk] at e1 hk2 ⊢
  rw [hpn2] at m1 hk2 hpn
  have hki : (k : Int) < (pn : Int) := by omega
  have hkn : (pn : Int) <= 1000000 := by omega
  clear hh hy hg l1 l2 hk hpn2 eb ry
  go_wp2_with fail
  refine HRC.out.mono ?_; rintro r w2 ⟨⟨v, rfl, hv⟩, hb2⟩
  have HV := hid hv
  have HB2 := hid (za_ HB1.out hb2)
  clear hv hb2
  go_wp2_with fail
  go_ret2
  refine ⟨?_, HB2.out⟩
  rw [HG.out]
  exact ⟨v, rfl, HV.out.lo HB1.out.size⟩
end Go.Proofs.YthmofoldmdafoaaGreat
