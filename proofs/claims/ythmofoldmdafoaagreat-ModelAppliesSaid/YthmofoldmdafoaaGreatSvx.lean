/- Part of the proof that ModelApplies holds for every input: writes that are done on tables leave them as the document says. Part 24. -/
import Derived.Test.YthmofoldmdafoaaGreatSvw
set_option linter.unusedVariables false
set_option linter.unusedSimpArgs false
set_option maxRecDepth 100000
set_option maxHeartbeats 4000000
namespace Go.Proofs.YthmofoldmdafoaaGreat
open Go.ChangeShapes Go.WideShapes Go.ChangeAt Go.RowKit
open Go.Lib (hid)
open Go.Proofs.Tryz
section
open Go.Shelf
def TxsR (W : World) (a : Option Addr) (L : List z2_) : Prop := ∀ (k : Nat) (x : z2_), L[k]? = some x -> ∃ b off, a = some ⟨b, off, none⟩ /\ (W.cell? ⟨b, off + k * 3, none⟩ = some (.slice x.oa x.on x.oc) /\ W.cell? ⟨b, off + k * 3 + 1, none⟩ = some (.bool x.sn) /\ W.cell? ⟨b, off + k * 3 + 2, none⟩ = some (.bool x.ab)) /\ zR_ W x
theorem TxsR.below {W W' : World} {a : Option Addr} {L : List z2_} (h : TxsR W a L) (b : Below W.heap.size W W') : TxsR W' a L := fun k o ho => by
 obtain ⟨g, off, e, ⟨h0, h1, h2⟩, hc⟩ := h k o ho
 have f : ∀ {p v}, W.cell? p = some v -> W'.cell? p = some v := fun h => tcb b h
 exact ⟨g, off, e, ⟨f h0, f h1, f h2⟩, hc.below b⟩
theorem ret_int {k : IntKind} {a b : Int} (h : a = b) : Ending.returned (.int k a) = .returned (.int k b) := by rw [h]
def Qp_ : List P1 -> Nat -> Nat
 | [], s => s
 | p :: r, s => if s < 1048576 then Qp_ r (s + min p.bs.length 1048576) else s
def szF (R : List P1) : Nat := Qp_ R R.length
theorem szGo_ge : ∀ (R : List P1) (s : Nat), s <= Qp_ R s
 | [], s => Nat.le_refl _
 | p :: r, s => by
  unfold Qp_
  split
  ·have := szGo_ge r (s + min p.bs.length 1048576); omega
  ·omega
theorem szGo_le : ∀ (R : List P1) (s m : Nat), s <= m + 2097152 -> Qp_ R s <= m + 2097152
 | [], s, m, h => h
 | p :: r, s, m, h => by
  unfold Qp_
  split
  ·exact szGo_le r _ m Xt0
  ·exact h
theorem szF_ge (R : List P1) : R.length <= szF R := szGo_ge R _
theorem szF_le (R : List P1) : szF R <= R.length + 2097152 := szGo_le R _ _ Xt0
theorem szGo_stop (R : List P1) (s : Nat) (h : ¬ s < 1048576) : Qp_ R s = s := by
 cases R with
 | nil => rfl
 | cons p r => unfold Qp_; rw [if_neg h]
theorem szGo_step {R : List P1} {k s : Nat} {p : P1} (hp : R[k]? = some p) (h : s < 1048576) : Qp_ (R.drop k) s = Qp_ (R.drop (k + 1)) (s + min p.bs.length 1048576) := by
 obtain ⟨hk, e⟩ := List.getElem?_eq_some_iff.1 hp
 rw [List.drop_eq_getElem_cons hk, Qp_, if_pos h, e]
theorem Qz_ (a : Option Addr) (R : List P1) (n cap : Nat) (hn : R.length = n) (w : World) (hR : RdR w a R) :
  Calls prog 50 #[.slice a n cap] w fun r w' => r = .returned (.int .i64 (szF R : Int)) /\ w' = w := by
 have HR := hid hR
 have HN := hid hn
 obtain ⟨ans, hans⟩ := gtx (szF R)
 have HA := hid (show Qp_ R n = ans by rw [← hans, ← hn]; rfl)
 rw [hans]
 clear hR hn hans
 go_enter func50, ntmps50
 go_wp2_with fail
 go_loopw [3, 4] (fun x i wr => ∃ k s : Nat, k <= n /\ i = .int .i64 k /\ x = .int .i64 s /\ n <= s /\ Hid (Qp_ (R.drop k) s = ans) /\ w = wr) (fun _ i _ => n - (intOf i).toNat)
 case atStart => exact ⟨0, n, by omega, rfl, rfl, by omega, hid (by simpa using HA.out), rfl⟩
 case round =>
  obtain ⟨k, s, hk, rfl, rfl, hns, HS, rfl⟩ := hrel
  by_cases hlt : k < n
  ·have hkl : (k : Int) < (n : Int) := by omega
   by_cases hs2 : s < 1048576
   ·have hsl : (s : Int) < 1048576 := by omega
    have hs9 : (s : Int) <= 1048576 := by omega
    obtain ⟨p, hp⟩ : ∃ p, R[k]? = some p := ⟨_, List.getElem?_eq_getElem Xt9⟩
    obtain ⟨b1, o1, e1, c1, l1⟩ := HR.out k p hp
    subst e1
    have c2 : w.cell? ⟨b1, o1 + k, none⟩ = some (.slice p.ad p.bs.length p.cap) := c1
    have HST := hid (show Qp_ (R.drop (k + 1)) (s + min p.bs.length 1048576) = ans by rw [← szGo_step hp hs2]; exact HS.out)
    obtain ⟨m, hm⟩ := gtx (p.bs.length)
    rw [hm] at c2 HST
    clear c1 hp hm l1
    by_cases hm2 : m < 1048576
    ·have hml : (m : Int) < 1048576 := by omega
     have HX := hid (show Qp_ (R.drop (k + 1)) (s + m) = ans by rw [← HST.out]; congr 1; omega)
     go_wp2_with fail
     go_roundw
     case rel => exact ⟨k + 1, s + m, by omega, by go_num, by go_num, by omega, HX, trivial⟩
     case measure => simp [intOf]; omega
    ·have hml : ¬ (m : Int) < 1048576 := by omega
     have HX := hid (show Qp_ (R.drop (k + 1)) (s + 1048576) = ans by rw [← HST.out]; congr 1; omega)
     go_wp2_with fail
     go_roundw
     case rel => exact ⟨k + 1, s + 1048576, by omega, by go_num, by go_num, by omega, HX, trivial⟩
     case measure => simp [intOf]; omega
   ·have hsl : ¬ (s : Int) < 1048576 := by omega
    have HE := hid (show ans = s by rw [← HS.out, szGo_stop _ _ hs2])
    go_wp2_with fail
    go_ret
    exact ⟨ret_int (by rw [HE.out]), rfl⟩
  ·have hkl : ¬ (k : Int) < (n : Int) := by omega
   have HE := hid (show ans = s by rw [← HS.out, List.drop_of_length_le Xt18]; rfl)
   go_wp2_with fail
   go_ret
   exact ⟨ret_int (by rw [HE.out]), rfl⟩
def TxG (x : z2_) : Prop := x.on <= 140737488355328 /\ ∀ o ∈ x.ops, o.rn <= 140737488355328
end
section
open Go.Maps Go.Shelf
theorem jA_ {R : List P1} (h : R.map P1.bs = []) : R = [] := List.map_eq_nil_iff.1 h
theorem one_row {R : List P1} {x : List Int} (h : R.map P1.bs = [x]) : ∃ a c, R = [⟨a, c, x⟩] := by
 match R, h with
 | [⟨a, c, y⟩], h => exact ⟨a, c, by simp at h; rw [h]⟩
theorem qz_ {R : List P1} {x y : List Int} (h : R.map P1.bs = [x, y]) : ∃ a c b d, R = [⟨a, c, x⟩, ⟨b, d, y⟩] := by
 match R, h with
 | [⟨a, c, u⟩, ⟨b, d, v⟩], h => exact ⟨a, c, b, d, by simp at h; rw [h.1, h.2]⟩
theorem yr_ (k0 : Int) (s : List Int) (str : ByteArray) (he : strOfNums s = str) (bS : Byt s) (hs : s.length <= 1000) (fa : Option Addr) (n c : Nat) (F : List (List Int)) (hF : F.length = n) (hn : n <= 1000) (bF : ∀ f ∈ F, Byt f /\ f.length <= 1000) (w : World) (hS : StrR w fa F) :
  Calls prog 32 #[.int .i64 k0, .string str, .slice fa n c] w (OpR w k0 s F) := by
 subst he
 exact op_law k0 s bS hs fa n c F hF hn bF w hS
theorem xA_ {W : World} {B : Nat} {cs : Array Value} (F : List (List Int)) (h : zg_ W B cs 9) (he : cs.toList = F.map fun s => .string (strOfNums s)) : StrR W (some ⟨B, 0, none⟩) F := fun k s hs => by
 refine ⟨B, 0, rfl, ?_⟩
 have := h.cell k
 rw [Nat.zero_add, this, ← Array.getElem?_toList, he, List.getElem?_map, hs]; rfl
theorem qQ_ (W : World) (a : Option Addr) : StrR W a [] := fun k s hs => by simp at hs
def ocl (o : zj_) : List Value := [.int .i64 o.k, .int .i64 o.t, .int .i64 o.i, .slice o.ka o.kn o.kc, .slice o.ta o.tn o.tc, .int .i64 o.m, .slice o.ra o.rn o.rc]
theorem j0_ {S : Nat -> Prop} {W : World} {cs : Array Value} (L : List zj_) (hc : cs = (cellsOf ocl L).toArray) (hS : ∀ k, S k -> k < W.heap.size) (hst : ∀ o ∈ L, zs_ S W fun W' => zz_ W' o) : zs_ S (W.alloc (.cells cs 74)) fun W' => OpsR W' (some ⟨W.heap.size, 0, none⟩) L := fun W' o k x hx => by
 have hb : zg_ W' W.heap.size (cellsOf ocl L).toArray 74 := Qh_ (by rw [hc]; exact zg_.new W _ _) o Xt81
 have hcell : ∀ i, i < 7 -> W'.cell? ⟨W.heap.size, 0 + k * 7 + i, none⟩ = (ocl x)[i]? := fun i hi => by
  rw [Nat.zero_add, hb.cell (k * 7 + i)]
  rw [List.getElem?_toArray]
  exact zY_ (f := ocl) (sz := 7) (fun _ => rfl) L k i x hx hi
 refine ⟨W.heap.size, 0, rfl, ⟨?_, ?_, ?_, ?_, ?_, ?_, ?_⟩, (hst x (List.mem_of_getElem? hx)) W' ((Off.of (bl1 _ _)).trans o)⟩
 ·exact (hcell 0 Xt0)
 ·exact (hcell 1 Xt0)
 ·exact (hcell 2 Xt0)
 ·exact (hcell 3 Xt0)
 ·exact (hcell 4 Xt0)
 ·exact (hcell 5 Xt0)
 ·exact (hcell 6 Xt0)
def DoY (S : Nat -> Prop) (w : World) (m : Md) (x : z2_) (r : Ending) (w' : World) : Prop :=
 ∃ m' a c rs, r = .returned (.tuple #[.slice a rs.length c, .int .i64 0]) /\ MdR S w' m' /\ zG_ m m' /\ m'.P = zZ_ m.P (wsI (jN_ m.j m.P x)) /\ Off (yq_ m) w w' /\ (∀ N : Nat, (∀ x ∈ m.tabs, x.2.length <= N) -> ∀ x ∈ m'.tabs, x.2.length <= N + 16) /\ rs.map yA_ = Q6_ m.j m.P x /\ (∀ y ∈ rs, yp_ y) /\ zs_ S w' fun W => jL_ W a rs
theorem do_yes {S : Nat -> Prop} {m : Md} {w : World} (h : MdR S w m) (hS : ∀ k, S k -> k < w.heap.size) (x : z2_) (hx : zs_ S w fun W => zR_ W x) (hon : x.on <= 1000000) (hrn : ∀ o ∈ x.ops, o.rn <= 1000000) (hf : ∀ z ∈ m.tabs, z.2.length <= 300000) (hm : yP_ m.j x = true) :
  Calls prog 24 #[.pointer (some ⟨m.p, 0, none⟩), .agg #[.slice x.oa x.on x.oc, .bool x.sn, .bool x.ab]] w (DoY S w m x) := (do_law h hS x hx hon hrn hf).mono fun r w' h => by
 unfold DoR at h
 rw [if_pos hm] at h
 exact h
def opV (k : Int) (s : List Int) (ka : Option Addr) (kc : Nat) (ra : Option Addr) (rc : Nat) (R : List P1) : zj_ := ⟨k, 0, 0, ka, s.length, kc, s, none, 0, 0, [], 0, ra, R.length, rc, R⟩
def j8_ (a : Option Addr) (c : Nat) : Job := ⟨1, 1, 3, 1024, 1024, 1, a, 1, c, [1]⟩
def b1 (a : Option Addr) (c : Nat) (x : Int) : P1 := ⟨a, c, [x]⟩
theorem may1 (a : Option Addr) (c : Nat) (oa : Option Addr) (oc : Nat) (k1 k2 k3 k4 r1 r2 r3 r4 : Option Addr) (d1 d2 d3 d4 e1 e2 e3 e4 : Nat) (p1 p2 p3 : Option Addr) (q1 q2 q3 : Nat) :
  yP_ (j8_ a c) ⟨oa, 4, oc, [opV 3 [97] k1 d1 r1 e1 [b1 p1 q1 120, b1 p2 q2 121], opV 3 [97] k2 d2 r2 e2 [b1 p3 q3 122], opV 1 [97] k3 d3 r3 e3 [], opV 4 [98] k4 d4 r4 e4 []], false, false⟩ = true := by rfl
theorem ans1 (a : Option Addr) (c : Nat) (oa : Option Addr) (oc : Nat) (k1 k2 k3 k4 r1 r2 r3 r4 : Option Addr) (d1 d2 d3 d4 e1 e2 e3 e4 : Nat) (p1 p2 p3 : Option Addr) (q1 q2 q3 : Nat) :
  Q6_ (j8_ a c) [[]] ⟨oa, 4, oc, [opV 3 [97] k1 d1 r1 e1 [b1 p1 q1 120, b1 p2 q2 121], opV 3 [97] k2 d2 r2 e2 [b1 p3 q3 122], opV 1 [97] k3 d3 r3 e3 [], opV 4 [98] k4 d4 r4 e4 []], false, false⟩ = [(0, []), (7, []), (0, [([97], [[120], [121]])]), (6, [])] := by rfl
theorem wrt1 (a : Option Addr) (c : Nat) (oa : Option Addr) (oc : Nat) (k1 k2 k3 k4 r1 r2 r3 r4 : Option Addr) (d1 d2 d3 d4 e1 e2 e3 e4 : Nat) (p1 p2 p3 : Option Addr) (q1 q2 q3 : Nat) :
  zZ_ [[]] (wsI (jN_ (j8_ a c) [[]] ⟨oa, 4, oc, [opV 3 [97] k1 d1 r1 e1 [b1 p1 q1 120, b1 p2 q2 121], opV 3 [97] k2 d2 r2 e2 [b1 p3 q3 122], opV 1 [97] k3 d3 r3 e3 [], opV 4 [98] k4 d4 r4 e4 []], false, false⟩)) = [[([97], [[120], [121]])]] := by rfl
def opL (ka : Option Addr) (kc : Nat) : zj_ := ⟨6, 0, 0, ka, 1, kc, [119], none, 0, 0, [], 9, none, 0, 0, []⟩
def opS : zj_ := ⟨5, 0, 0, none, 0, 0, [], none, 0, 0, [], 1, none, 0, 0, []⟩
theorem may2 (a : Option Addr) (c : Nat) (oa : Option Addr) (oc : Nat) (k1 k2 r1 : Option Addr) (d1 d2 e1 : Nat) (p1 p2 : Option Addr) (q1 q2 : Nat) :
  yP_ (j8_ a c) ⟨oa, 3, oc, [opV 2 [98] k1 d1 r1 e1 [b1 p1 q1 120, b1 p2 q2 119], opL k2 d2, opS], false, false⟩ = true := by rfl
theorem wrt2 (a : Option Addr) (c : Nat) (oa : Option Addr) (oc : Nat) (k1 k2 r1 : Option Addr) (d1 d2 e1 : Nat) (p1 p2 : Option Addr) (q1 q2 : Nat) :
  zZ_ [[([97], [[120], [121]])]] (wsI (jN_ (j8_ a c) [[([97], [[120], [121]])]] ⟨oa, 3, oc, [opV 2 [98] k1 d1 r1 e1 [b1 p1 q1 120, b1 p2 q2 119], opL k2 d2, opS], false, false⟩)) = [[([97], [[120], [121]]), ([98], [[120], [119]])]] := by rfl
theorem srt2 (a : Option Addr) (c : Nat) : yK_ (j8_ a c) 0 (trV (j8_ a c) 0 0).1 [([97], [[120], [121]]), ([98], [[120], [119]])] = [([119, 0, 1, 98], ([98], [[120], [119]])), ([121, 0, 1, 97], ([97], [[120], [121]]))] := by
 have h : qn_ (j8_ a c) 0 (trV (j8_ a c) 0 0).1 [([97], [[120], [121]]), ([98], [[120], [119]])] = [([121, 0, 1, 97], ([97], [[120], [121]])), ([119, 0, 1, 98], ([98], [[120], [119]]))] := by rfl
 unfold yK_
 rw [h]
 simp [List.mergeSort, List.MergeSort.Internal.splitInTwo, leL, ltL]
theorem ans2 (a : Option Addr) (c : Nat) (oa : Option Addr) (oc : Nat) (k1 k2 r1 : Option Addr) (d1 d2 e1 : Nat) (p1 p2 : Option Addr) (q1 q2 : Nat) :
  Q6_ (j8_ a c) [[([97], [[120], [121]])]] ⟨oa, 3, oc, [opV 2 [98] k1 d1 r1 e1 [b1 p1 q1 120, b1 p2 q2 119], opL k2 d2, opS], false, false⟩ = [(0, []), (0, [([98], [[120], [119]]), ([97], [[120], [121]])]), (0, [([97], [[120], [121]])])] := by
 have h := srt2 a c
 have e : Q6_ (j8_ a c) [[([97], [[120], [121]])]] ⟨oa, 3, oc, [opV 2 [98] k1 d1 r1 e1 [b1 p1 q1 120, b1 p2 q2 119], opL k2 d2, opS], false, false⟩ = [(0, []), (0, (yO_ Prod.fst (zk_ [119]) (zk_ []) false 9 (yK_ (j8_ a c) 0 (trV (j8_ a c) 0 0).1 [([97], [[120], [121]]), ([98], [[120], [119]])]) []).map Prod.snd), (0, [([97], [[120], [121]])])] := by rfl
 rw [e, h]; rfl
theorem may3 (a : Option Addr) (c : Nat) (oa : Option Addr) (oc : Nat) (k1 k2 r1 r2 : Option Addr) (d1 d2 e1 e2 : Nat) :
  yP_ (j8_ a c) ⟨oa, 2, oc, [opV 4 [97] k1 d1 r1 e1 [], opV 1 [97] k2 d2 r2 e2 []], false, true⟩ = true := by rfl
theorem ans3 (a : Option Addr) (c : Nat) (oa : Option Addr) (oc : Nat) (k1 k2 r1 r2 : Option Addr) (d1 d2 e1 e2 : Nat) :
  Q6_ (j8_ a c) [[([97], [[120], [121]]), ([98], [[120], [119]])]] ⟨oa, 2, oc, [opV 4 [97] k1 d1 r1 e1 [], opV 1 [97] k2 d2 r2 e2 []], false, true⟩ = [(0, []), (6, [])] := by rfl
theorem wrt3 (a : Option Addr) (c : Nat) (oa : Option Addr) (oc : Nat) (k1 k2 r1 r2 : Option Addr) (d1 d2 e1 e2 : Nat) :
  zZ_ [[([97], [[120], [121]]), ([98], [[120], [119]])]] (wsI (jN_ (j8_ a c) [[([97], [[120], [121]]), ([98], [[120], [119]])]] ⟨oa, 2, oc, [opV 4 [97] k1 d1 r1 e1 [], opV 1 [97] k2 d2 r2 e2 []], false, true⟩)) = [[([97], [[120], [121]]), ([98], [[120], [119]])]] := by rfl
theorem may4 (a : Option Addr) (c : Nat) (oa : Option Addr) (oc : Nat) (k1 k2 k3 r1 r2 r3 : Option Addr) (d1 d2 d3 e1 e2 e3 : Nat) (p1 p2 : Option Addr) (q1 q2 : Nat) :
  yP_ (j8_ a c) ⟨oa, 3, oc, [opV 2 [99] k1 d1 r1 e1 [b1 p1 q1 122], opV 4 [99] k2 d2 r2 e2 [], opV 3 [97] k3 d3 r3 e3 [b1 p2 q2 113]], false, false⟩ = true := by rfl
theorem wrt4 (a : Option Addr) (c : Nat) (oa : Option Addr) (oc : Nat) (k1 k2 k3 r1 r2 r3 : Option Addr) (d1 d2 d3 e1 e2 e3 : Nat) (p1 p2 : Option Addr) (q1 q2 : Nat) :
  jN_ (j8_ a c) [[([97], [[120], [121]]), ([98], [[120], [119]])]] ⟨oa, 3, oc, [opV 2 [99] k1 d1 r1 e1 [b1 p1 q1 122], opV 4 [99] k2 d2 r2 e2 [], opV 3 [97] k3 d3 r3 e3 [b1 p2 q2 113]], false, false⟩ = [(0, [99], [])] := by rfl
end
end Go.Proofs.YthmofoldmdafoaaGreat
