/- Part of the proof that ModelCopies holds for every input: a copy goes on apart; two models are the same just if tables and rows are. Part 2. -/
import Derived.Test.YthmofoldmdafoaaGreatSca
set_option linter.unusedVariables false
set_option linter.unusedSimpArgs false
set_option maxRecDepth 100000
set_option maxHeartbeats 4000000
namespace Go.Proofs.YthmofoldmdafoaaGreat
open Go.ChangeShapes Go.WideShapes Go.ChangeAt Go.RowKit
open Go.Lib (hid)
open Go.Proofs.Tryz
section
open Go.Shelf
def trV (j : Job) (a b : Int) : Int × Int × Int × Bool := zO_ (fun x : Tr => decide (x.2.1 = a /\ x.2.2 = b)) (idx 0 (yc_ j))
def ofV (j : Job) (a : Int) : Int × Int × Int × Bool := zO_ (fun x : Tr => decide ((x.1 : Int) = a)) (idx 0 (yc_ j))
theorem jH_ {p : Tr -> Bool} : ∀ {l : List Tr}, (zO_ p l).2.2.2 = false -> zO_ p l = (0, 0, 0, false)
 | [], _ => rfl
 | x :: r, h => by
  rw [zO_] at h ⊢
  by_cases e : p x = true
  ·rw [if_pos e] at h; cases h
  ·rw [if_neg e] at h ⊢; exact jH_ h
theorem qA_ (j : Job) (a b : Int) (w : World) (hj : z2_ w j) :
  Calls prog 85 #[.agg #[.int .i64 j.w, .int .i64 j.l, .int .i64 j.d, .int .i64 j.c, .int .i64 j.k, .int .i64 j.e, .slice j.a j.n j.cap], .int .i64 a, .int .i64 b] w fun r w' => r = .returned (.tuple #[.int .i64 (trV j a b).1, .int .i64 (if (trV j a b).2.2.2 then 0 else 2)]) /\ Below w.heap.size w w' := by
 have HJ := hid hj
 have HT := hid (fun (W : World) (P1 P2 : Nat) (h : z2_ W j) (h1 : Boxed W P1 3 (.int .i64 a)) (h2 : Boxed W P2 3 (.int .i64 b)) => QZ_ j a b P1 P2 W h h1 h2)
 rw [show zO_ (fun x : Tr => decide (x.2.1 = a /\ x.2.2 = b)) (idx 0 (yc_ j)) = trV j a b from rfl] at HT
 have HZ := hid (show (trV j a b).2.2.2 = false -> trV j a b = (0, 0, 0, false) from fun h => jH_ h)
 clear hj
 generalize trV j a b = V at HT HZ ⊢
 obtain ⟨k, t, i, ok⟩ := V
 simp only at HT HZ ⊢
 have BW : Below w.heap.size w (((w.alloc (.cells #[.int .i64 j.w, .int .i64 j.l, .int .i64 j.d, .int .i64 j.c, .int .i64 j.k, .int .i64 j.e, .slice j.a j.n j.cap] 24)).alloc (.cells #[.int .i64 a] 3)).alloc (.cells #[.int .i64 b] 3)) := (((Below.refl _ w).alloc (Nat.le_refl _) _).alloc Xt5 _).alloc Xt7 _
 have b1 := (Boxed.new (w.alloc (.cells #[.int .i64 j.w, .int .i64 j.l, .int .i64 j.d, .int .i64 j.c, .int .i64 j.k, .int .i64 j.e, .slice j.a j.n j.cap] 24)) 3 (.int .i64 a)).alloc (.cells #[.int .i64 b] 3)
 have b2 := Boxed.new ((w.alloc (.cells #[.int .i64 j.w, .int .i64 j.l, .int .i64 j.d, .int .i64 j.c, .int .i64 j.k, .int .i64 j.e, .slice j.a j.n j.cap] 24)).alloc (.cells #[.int .i64 a] 3)) 3 (.int .i64 b)
 simp only [World.size_alloc] at b1 b2
 have HW := hid (HT.out _ _ _ (HJ.out.below BW) b1 b2)
 have HBW := hid BW
 clear HT b1 b2 BW
 cases ok
 ·obtain rfl : k = 0 := by have := HZ.out rfl; simp at this; exact this.1
  simp only [Bool.false_eq_true, ↓reduceIte]
  exact Xb57
 ·simp only [↓reduceIte]
  exact Xb57
def nv (l : List (Int × Int)) : List Value := l.flatMap fun p => [.int .i64 p.1, .int .i64 p.2]
theorem nv_append (a b : List (Int × Int)) : nv (a ++ b) = nv a ++ nv b := by simp [nv]
theorem nv_at (l : List (Int × Int)) : ∀ (k : Nat) (p : Int × Int), l[k]? = some p -> (nv l)[k * 2]? = some (.int .i64 p.1) /\ (nv l)[k * 2 + 1]? = some (.int .i64 p.2) := by
 induction l with
 | nil => intro k p h; simp at h
 | cons q r ih =>
  intro k p h
  cases k with
  | zero => simp at h; subst h; simp [nv]
  | succ k =>
   have h' : r[k]? = some p := by simpa using h
   have := ih k p h'
   simp only [nv, List.flatMap_cons, List.cons_append, List.nil_append] at this ⊢
   rw [show (k + 1) * 2 = k * 2 + 1 + 1 by omega]
   simpa using this
theorem info66 : (prog.info? 184).map (fun i => (i.zero, i.size, i.bytes)) = some (some (.agg #[.int .i64 0, .int .i64 0]), 2, 16) := by kernel_rfl
def NmR (W : World) (a : Option Addr) (l : List (Int × Int)) : Prop := ∀ (k : Nat) (p : Int × Int), l[k]? = some p -> ∃ b off, a = some ⟨b, off, none⟩ /\ W.cell? ⟨b, off + k * 2, none⟩ = some (.int .i64 p.1) /\ W.cell? ⟨b, off + k * 2 + 1, none⟩ = some (.int .i64 p.2)
theorem own_nmr {w : World} {base n : Nat} {v : Value} {l : List (Int × Int)} (h : w.ownsRow base 184 2 v n (nv l)) (hn : l.length = n) : ∃ a cap, v = .slice a n cap /\ NmR w a l := by
 have h' := h
 rcases h.2 with ⟨e, h0⟩ | ⟨g, cap, cur, rfl, hg, _, hc, _⟩
 ·exact Xb103
 ·refine ⟨_, cap, rfl, fun k p hp => ⟨g, 0, rfl, ?_, ?_⟩⟩
  ·have hk := (List.getElem?_eq_some_iff.1 hp).1
   rw [Nat.zero_add, h'.cellAt (k * 2) Xt0]
   exact (nv_at l k p hp).1
  ·have hk := (List.getElem?_eq_some_iff.1 hp).1
   rw [Nat.zero_add, h'.cellAt (k * 2 + 1) Xt0]
   exact (nv_at l k p hp).2
theorem qnamed_law (j : Job) (w : World) (hj : z2_ w j) :
  Calls prog 153 #[.agg #[.int .i64 j.w, .int .i64 j.l, .int .i64 j.d, .int .i64 j.c, .int .i64 j.k, .int .i64 j.e, .slice j.a j.n j.cap]] w fun r w' => (∃ v, r = .returned v /\ w'.ownsRow w.heap.size 184 2 v (yc_ j).length (nv (yc_ j))) /\ Below w.heap.size w w' := by
 obtain ⟨i0, hi, hz0, hz1, hz2⟩ := info_parts info66
 have HJ := hid hj
 have hle := hj.le
 have hlen := hid hj.len
 clear hj
 go_enter func153, ntmps153
 go_upto_region 2 with (fail)
 have hb := zg_.new w #[.int .i64 j.w, .int .i64 j.l, .int .i64 j.d, .int .i64 j.c, .int .i64 j.k, .int .i64 j.e, .slice j.a j.n j.cap] 24
 have hB1 : Below w.heap.size w (w.alloc (.cells #[.int .i64 j.w, .int .i64 j.l, .int .i64 j.d, .int .i64 j.c, .int .i64 j.k, .int .i64 j.e, .slice j.a j.n j.cap] 24)) := (Below.refl _ _).alloc (Nat.le_refl _) _
 have hsz : (w.alloc (.cells #[.int .i64 j.w, .int .i64 j.l, .int .i64 j.d, .int .i64 j.c, .int .i64 j.k, .int .i64 j.e, .slice j.a j.n j.cap] 24)).heap.size = w.heap.size + 1 := by simp
 generalize w.alloc (.cells #[.int .i64 j.w, .int .i64 j.l, .int .i64 j.d, .int .i64 j.c, .int .i64 j.k, .int .i64 j.e, .slice j.a j.n j.cap] 24) = W1 at hb hB1 hsz ⊢
 have c0 := hb.cell 0
 have c1 := hb.cell 1
 have c2 := hb.cell 2
 have c3 := hb.cell 3
 have c4 := hb.cell 4
 have c5 := hb.cell 5
 have c6 := hb.cell 6
 simp only [gtA, gtB, gtC] at c0 c1 c2 c3 c4 c5 c6
 have C6 := hid c6
 have HB1 := hid hB1
 have HSZ := hid hsz
 clear hb hB1 hsz
 go_wp2_with fail
 refine (xs_ j _ (HJ.out.below HB1.out)).mono ?_
 rintro e W2 ⟨rfl, B2⟩
 have HB2 := hid (show Below (w.heap.size + 1) W1 W2 by rw [← HSZ.out]; exact B2)
 clear B2 c0 c1 c2 c3 c4 c5 c6
 have hfin : ∀ wr, Below (w.heap.size + 1) W1 wr -> Below w.heap.size w wr := fun wr h => HB1.out.trans (h.mono Xt0)
 have HFIN := hid hfin
 clear hfin
 cases hok : okB j
 ·have hnm := hid (qE_ hok)
  rw [chk_no hok]
  clear hok
  go_wp2_with fail
  go_ret
  exact ⟨⟨_, rfl, by rw [hnm.out]; exact World.ownsRow_nil _ _ _ _⟩, HFIN.out _ HB2.out⟩
 ·have hnm := hid (xv_ hok)
  have hT := hid (jh_ hok)
  have hn4 := (okB_n hok).2
  have hn4i : (j.n : Int) <= 4 := by omega
  rw [chk_ok hok]
  clear hok
  go_wp2_with fail
  go_loopw [3, 4] (fun v i wr => ∃ k : Nat, k <= j.n /\ i = .int .i64 (k : Int) /\ wr.ownsRow (w.heap.size + 1) 184 2 v (nmL 0 (j.T.take k)).length (nv (nmL 0 (j.T.take k))) /\ Below (w.heap.size + 1) W1 wr) (fun _ i _ => j.n - (intOf i).toNat)
  case atStart => exact ⟨0, by omega, rfl, World.ownsRow_nil _ _ _ _, HB2.out⟩
  case round =>
   clear HB2
   obtain ⟨k, hk, rfl, hown, hK⟩ := hrel
   have c6 := (hK.cell (p := ⟨w.heap.size, 6, none⟩) Xt5).trans C6.out
   by_cases hlt : k < j.n
   ·have hkl : (k : Int) < (j.n : Int) := by omega
    have hkT : k < j.T.length := by rw [hlen.out]; exact hlt
    obtain ⟨hx0, hx2⟩ := hT.out k hkT
    obtain ⟨x, hx⟩ : ∃ x : Nat, j.T.getD k 0 = (x : Int) := ⟨(j.T.getD k 0).toNat, by omega⟩
    have hx2 : x <= 2 := by omega
    have hx2i : (x : Int) <= 2 := by omega
    have HX := hid hx
    have e0 := nmP_zero j.T k
    rw [← e0] at hown
    have HO := hid hown
    have HK := hid hK
    clear hx hkT e0 hown hK
    go_wp2_with fail
    go_loopw [3, 5] (fun v i wr => ∃ m : Nat, m <= x + 1 /\ i = .int .i64 ((m : Int) - 1) /\ wr.ownsRow (w.heap.size + 1) 184 2 v (nmP j.T k m).length (nv (nmP j.T k m)) /\ Below (w.heap.size + 1) W1 wr) (fun _ i _ => 5 - (intOf i + 1).toNat)
    case atStart => exact ⟨0, by omega, rfl, HO.out, HK.out⟩
    case round =>
     clear HO HK c6
     obtain ⟨m, hm, rfl, hown, hK⟩ := hrel
     have c6 := (hK.cell (p := ⟨w.heap.size, 6, none⟩) Xt5).trans C6.out
     obtain ⟨b1, o1, ea, d1⟩ := (HJ.out.ls.below (HFIN.out _ hK)).get k Xt75
     rw [HX.out] at d1
     rw [ea] at c6
     clear ea
     have hsz : w.heap.size + 1 <= wr.heap.size := by rw [← HSZ.out]; have := hK.size; rw [HSZ.out] at this ⊢; omega
     by_cases hmx : m < x + 1
     ·have hml : (m : Int) - 1 < (x : Int) := by omega
      have hq12 : (nmP j.T k m).length <= 20 := by
       exact Xb124
      have hL : (nmP j.T k (m + 1)).length = (nmP j.T k m).length + 1 := by rw [xu_]; simp
      have hV : nv (nmP j.T k (m + 1)) = nv (nmP j.T k m) ++ [.int .i64 (k : Int), .int .i64 ((m : Int) - 1)] := by rw [xu_, nv_append]; rfl
      obtain ⟨q, hq⟩ := gtx ((nmP j.T k m).length)
      rw [hq] at hown hL hq12
      have HL := hid hL
      have HV := hid hV
      have HO := hid hown
      have HK := hid hK
      clear hq hL hV hown hK
      go_wp2_with (at_builtin; refine wpList_append_own _ rfl (.tmp 26) (.tmp 30) 229 rfl (w.heap.size + 1) 184 i0 (.agg #[.int .i64 0, .int .i64 0]) 2 16 underlying229 hi hz0 hz1 hz2 rfl Xt4 _ q (nv (nmP j.T k m)) rfl (HO.out.alloc _) ⟨wr.heap.size, 0, none⟩ 1 1 [.int .i64 (k : Int), .int .i64 ((m : Int) - 1)] rfl rfl (cell_two_new _ _ _ _) (by intro u hu; simp at hu; rcases hu with rfl | rfl <;> rfl) Xt15 Xt0 Xt7 ?_)
      intro v4 w4 hown4 hgrow4 _
      rw [← HV.out, ← HL.out] at hown4
      have b4 : Below (w.heap.size + 1) W1 w4 := HK.out.trans (((Below.refl _ wr).alloc hsz _).grown hgrow4 Xt7 (fun j hj => (HO.out.lt j hj).1))
      have HO4 := hid hown4
      have HB4 := hid b4
      clear hown4 hgrow4 b4
      go_wp2_with fail
      go_roundw
      case rel => exact ⟨m + 1, by omega, by first | go_num | (congr 1; omega), HO4.out, HB4.out⟩
      case measure => simp [intOf]; omega
     ·have hml : ¬ (m : Int) - 1 < (x : Int) := by omega
      have hme : m = x + 1 := by omega
      have hnx := j3_ j.T k Xt75
      rw [HX.out, show ((x : Int) + 1).toNat = x + 1 by omega, ← hme] at hnx
      rw [hnx] at hown
      have HO := hid hown
      have HK := hid hK
      clear hnx hme hown hK
      go_wp2_with fail
      go_roundw
      case rel => exact ⟨k + 1, by omega, by go_num, HO.out, HK.out⟩
      case measure => simp [intOf]; omega
   ·have hkl : ¬ (k : Int) < (j.n : Int) := by omega
    have HE := hid (show wr.ownsRow w.heap.size 184 2 _ (yc_ j).length (nv (yc_ j)) by
     rw [List.take_of_length_le Xt86] at hown
     rw [hnm.out]; exact x5_ Xt0 hown)
    have HK := hid hK
    clear hown hK
    go_wp2_with fail
    go_ret
    exact ⟨⟨_, rfl, HE.out⟩, HFIN.out _ HK.out⟩
theorem idx_split (l : List (Int × Int)) (k : Nat) (q : Int × Int) (h : l[k]? = some q) : idx 0 l = idx 0 (l.take k) ++ [(k, q.1, q.2)] ++ idx (k + 1) (l.drop (k + 1)) := by
 obtain ⟨hk, e⟩ := List.getElem?_eq_some_iff.1 h
 have e1 : l = l.take k ++ (q :: l.drop (k + 1)) := by rw [← e, ← List.drop_eq_getElem_cons hk, List.take_append_drop]
 conv => lhs; rw [e1]
 rw [qq_, idx, List.length_take, Nat.min_eq_left Xt0, Nat.zero_add]
 simp
theorem Qa_ : ∀ (l : List (Int × Int)) (s : Nat) (x : Tr), x ∈ idx s l -> ∃ i, l[i]? = some (x.2.1, x.2.2) /\ x.1 = s + i
 | [], s, x, h => by simp [idx] at h
 | p :: r, s, x, h => by
  rcases List.mem_cons.1 h with e | h
  ·subst e; exact ⟨0, by simp, by simp⟩
  ·obtain ⟨i, h1, h2⟩ := Qa_ r (s + 1) x h
   exact ⟨i + 1, by simpa using h1, by omega⟩
theorem trV_at (j : Job) (a b : Int) (k : Nat) (h : (yc_ j)[k]? = some (a, b)) (hno : ∀ i < k, (yc_ j)[i]? ≠ some (a, b)) : trV j a b = ((k : Int), a, b, true) := by
 unfold trV
 rw [idx_split _ _ _ h]
 refine xQ_ Xt5 fun y hy => ?_
 obtain ⟨i, h1, h2⟩ := Qa_ _ _ _ hy
 rw [decide_eq_false_iff_not]
 rintro ⟨e1, e2⟩
 rw [e1, e2] at h1
 rw [List.getElem?_take] at h1
 split at h1
 ·exact hno i Xt0 h1
 ·cases h1
theorem trV_none (j : Job) (a b : Int) (hno : ∀ i < (yc_ j).length, (yc_ j)[i]? ≠ some (a, b)) : trV j a b = (0, 0, 0, false) := by
 unfold trV
 refine xR_ fun y hy => ?_
 obtain ⟨i, h1, h2⟩ := Qa_ _ _ _ hy
 rw [decide_eq_false_iff_not]
 rintro ⟨e1, e2⟩
 rw [e1, e2] at h1
 exact hno i (List.getElem?_eq_some_iff.1 h1).1 h1
theorem QH_ (j : Job) (a b : Int) (w : World) (hj : z2_ w j) :
  Calls prog 132 #[.agg #[.int .i64 j.w, .int .i64 j.l, .int .i64 j.d, .int .i64 j.c, .int .i64 j.k, .int .i64 j.e, .slice j.a j.n j.cap], .int .i64 a, .int .i64 b] w fun r w' => r = .returned (.tuple #[.int .i64 (trV j a b).1, .int .i64 (if (trV j a b).2.2.2 then 0 else 2)]) /\ Below w.heap.size w w' := by
 have HJ := hid hj
 have hnl := QN_ j (by have := hj.len; omega)
 have HA := hid (trV_at j a b)
 have HN := hid (trV_none j a b)
 clear hj
 have hQ := hid (fun (k : Nat) (h : trV j a b = ((k : Int), a, b, true)) => show Value.tuple #[.int .i64 (k : Int), .int .i64 0] = .tuple #[.int .i64 (trV j a b).1, .int .i64 (if (trV j a b).2.2.2 then 0 else 2)] by rw [h]; rfl)
 have hQ0 := hid (fun (h : trV j a b = (0, 0, 0, false)) => show Value.tuple #[.int .i64 0, .int .i64 2] = .tuple #[.int .i64 (trV j a b).1, .int .i64 (if (trV j a b).2.2.2 then 0 else 2)] by rw [h]; rfl)
 obtain ⟨T, hT⟩ := gtx (Value.tuple #[.int .i64 (trV j a b).1, .int .i64 (if (trV j a b).2.2.2 then 0 else 2)])
 rw [hT] at hQ hQ0 ⊢
 clear hT
 go_enter func132, ntmps132
 go_wp2_with fail
 have hB1 : Below w.heap.size w (w.alloc (.cells #[.int .i64 j.w, .int .i64 j.l, .int .i64 j.d, .int .i64 j.c, .int .i64 j.k, .int .i64 j.e, .slice j.a j.n j.cap] 24)) := (Below.refl _ _).alloc (Nat.le_refl _) _
 generalize w.alloc (.cells #[.int .i64 j.w, .int .i64 j.l, .int .i64 j.d, .int .i64 j.c, .int .i64 j.k, .int .i64 j.e, .slice j.a j.n j.cap] 24) = W1 at hB1 ⊢
 refine (qnamed_law j _ (HJ.out.below hB1)).mono ?_
 rintro e W2 ⟨⟨v, rfl, hown⟩, B2⟩
 obtain ⟨la, lc, rfl, hR⟩ := own_nmr hown rfl
 have HB2 := hid (za_ hB1 B2)
 have HR := hid hR
 clear hown B2 hB1 hR
 generalize yc_ j = l at HR hnl HA HN
 obtain ⟨n, hn⟩ := gtx (l.length)
 rw [hn] at hnl HN ⊢
 have HLN := hid hn
 have hni : (n : Int) <= 12 := by omega
 clear hn
 go_wp2_with fail
 go_loopw [9] (fun i wr => ∃ k : Nat, k <= n /\ i = .int .i64 (k : Int) /\ Hid (∀ i < k, l[i]? ≠ some (a, b)) /\ wr = W2) (fun i _ => n - (intOf i).toNat)
 case atStart => exact ⟨0, by omega, rfl, hid (fun i hi => absurd hi Xt0), rfl⟩
 case round =>
  obtain ⟨k, hk, rfl, hno, rfl⟩ := hrel
  by_cases hlt : k < n
  ·have hkl : (k : Int) < (n : Int) := by omega
   obtain ⟨p, hp⟩ : ∃ p, l[k]? = some p := ⟨_, List.getElem?_eq_getElem Xt77⟩
   obtain ⟨b1, o1, ea, d0, d1⟩ := HR.out k p hp
   obtain ⟨x, y⟩ := p
   simp only at d0 d1
   have HP := hid hp
   subst ea
   clear hp
   by_cases q1 : x = a
   ·have t1 : (x == a) = true := by simpa using q1
    by_cases q2 : y = b
    ·have t2 : (y == b) = true := by simpa using q2
     have HV := hid (HA.out k (by rw [HP.out, q1, q2]) hno.out)
     clear q1 q2
     go_wp2_with fail
     try rw [Exit.noGoto_ret]
     go_ret2
     exact ⟨congrArg Ending.returned (hQ.out k HV.out), HB2.out⟩
    ·have t2 : (y == b) = false := by simpa using q2
     have HN2 := hid (show ∀ i < k + 1, l[i]? ≠ some (a, b) from jstep hno.out (by rw [HP.out]; intro h; simp at h; exact q2 h.2))
     clear q1 q2
     exact Xb92
   ·have t1 : (x == a) = false := by simpa using q1
    have HN2 := hid (show ∀ i < k + 1, l[i]? ≠ some (a, b) from jstep hno.out (by rw [HP.out]; intro h; simp at h; exact q1 h.1))
    clear q1
    exact Xb92
  ·have hkl : ¬ (k : Int) < (n : Int) := by omega
   have HV := hid (HN.out (fun i hi => hno.out i Xt0))
   go_wp2_with fail
   try rw [Exit.noGoto_ret]
   go_ret2
   exact ⟨congrArg Ending.returned (hQ0.out HV.out), HB2.out⟩
theorem entry_own (a b : Option Addr) (Lf Lk : List Int) (n m ca cb : Nat) (hf : Lf.length = n) (hkl : Lk.length = m) (hn : n <= 24) (hk : yA_ m = true) (w : World) (hA : Ls .u8 w a ca Lf) (hB : Ls .u8 w b cb Lk) :
  Calls prog 137 #[.slice a n ca, .slice b m cb] w fun r w' => ∃ a' c', r = .returned (.tuple #[.slice a' (zu_ Lf Lk).length c', .int .i64 0]) /\ w'.ownsRow w.heap.size 5 1 (.slice a' (zu_ Lf Lk).length c') (zu_ Lf Lk).length (iv .u8 (zu_ Lf Lk)) /\ Below w.heap.size w w' := by
 have HA := hid hA
 have HB := hid hB
 have HF := hid hf
 have HKL := hid hkl
 have HK := hid hk
 have hm32 : m <= 32 := by unfold yA_ at hk; simp at hk; omega
 have hfl := yx_ Lf
 have hE : zu_ Lf Lk = zk_ Lf ++ ([0, 1] ++ Lk) := rfl
 obtain ⟨F, hF⟩ := gtx (zk_ Lf)
 rw [hF] at hfl hE
 obtain ⟨E, hEE⟩ := gtx (zu_ Lf Lk)
 rw [hEE] at hE ⊢
 have HFF := hid hF
 have HE := hid hE
 obtain ⟨fl, hl⟩ := gtx (F.length)
 rw [hl] at hfl
 have HFLE := hid (show fl <= 48 by omega)
 have HL := hid hl
 clear hA hB hf hkl hk hF hE hEE hl hfl
 have h := Qd_ a Lf n ca HF.out hn w HA.out
 rw [HFF.out, HL.out] at h
 go_enter func137, ntmps137
 go_wp2_with fail
 refine h.mono ?_; rintro e w' ⟨a', c', rfl, l', B⟩
 clear h
 go_wp2_with fail
 refine (zN_ _ _ _ _).mono ?_; rintro e w2 ⟨rfl, rfl⟩
 rw [HK.out]
 go_wp2_with fail
 have hfl2 : jj_ [⟨a', c', F⟩, ⟨some ⟨w'.heap.size, 0, none⟩, 2, [0, 1]⟩, ⟨b, cb, Lk⟩] = E := by rw [HE.out]; simp [jj_]
 have hlen : E.length = fl + (2 + m) := by rw [HE.out, List.length_append, List.length_append, HL.out, HKL.out]; rfl
 have BW := (Below.refl w'.heap.size w').alloc (Nat.le_refl _) (.cells #[.int .u8 0, .int .u8 1] 5)
 have hRR := rdR_new (w'.alloc (.cells #[.int .u8 0, .int .u8 1] 5)) [⟨a', c', F⟩, ⟨some ⟨w'.heap.size, 0, none⟩, 2, [0, 1]⟩, ⟨b, cb, Lk⟩] #[.slice a' fl c', .slice (some ⟨w'.heap.size, 0, none⟩) 2 2, .slice b m cb] 42 (0, 0) (by simp only [List.map_cons, List.map_nil, P1.v, HL.out, HKL.out]; rfl) (by
  intro p hp
  simp only [List.mem_cons, List.not_mem_nil, or_false] at hp
  rcases hp with rfl | rfl | rfl
  ·exact l'.below BW
  ·exact y5_ .u8 w' [0, 1] _ _ _ rfl 2 rfl
  ·exact HB.out.below (B.trans (BW.mono B.size)))
 rw [World.size_alloc] at hRR
 have hj := join_own (some ⟨w'.heap.size + 1, 0, none⟩) [⟨a', c', F⟩, ⟨some ⟨w'.heap.size, 0, none⟩, 2, [0, 1]⟩, ⟨b, cb, Lk⟩] 3 3 rfl Xt0 (by rw [hfl2, hlen]; have := HFLE.out; omega) _ hRR
 rw [hfl2] at hj
 have HJ := hid hj
 clear hj hfl2 hlen
 refine HJ.out.mono ?_; rintro e w3 ⟨a3, c3, rfl, _, o3, B3⟩
 obtain ⟨el, hel⟩ := gtx (E.length)
 rw [hel]
 have HEL := hid hel
 clear hel
 have HO := hid (x5_ (show w.heap.size <= _ by have h1 := B.size; have h2 := BW.size; simp at h2 ⊢; omega) o3)
 clear o3
 have B4 := za_ B (za_ BW (za_ ((Below.refl _ _).alloc (Nat.le_refl _) _) B3))
 go_wp2_with fail
 go_ret2
 exact ⟨a3, c3, by rw [HEL.out]; rfl, HO.out, B4⟩
abbrev E1 := Int × P1
def ev (L : List E1) : List Value := L.flatMap fun p => [.int .i64 p.1, p.2.v]
theorem ev_append (a b : List E1) : ev (a ++ b) = ev a ++ ev b := by simp [ev]
theorem ev_at (l : List E1) : ∀ (k : Nat) (p : E1), l[k]? = some p -> (ev l)[k * 2]? = some (.int .i64 p.1) /\ (ev l)[k * 2 + 1]? = some p.2.v := by
 induction l with
 | nil => intro k p h; simp at h
 | cons q r ih =>
  intro k p h
  cases k with
  | zero => simp at h; subst h; simp [ev]
  | succ k =>
   have h' : r[k]? = some p := by simpa using h
   have := ih k p h'
   simp only [ev, List.flatMap_cons, List.cons_append, List.nil_append] at this ⊢
   rw [show (k + 1) * 2 = k * 2 + 1 + 1 by omega]
   simpa using this
theorem info91 : (prog.info? 192).map (fun i => (i.zero, i.size, i.bytes)) = some (some (.agg #[.int .i64 0, .slice none 0 0]), 2, 32) := by kernel_rfl
def EnR (W : World) (a : Option Addr) (L : List E1) : Prop := ∀ (k : Nat) (p : E1), L[k]? = some p -> ∃ b off, a = some ⟨b, off, none⟩ /\ W.cell? ⟨b, off + k * 2, none⟩ = some (.int .i64 p.1) /\ W.cell? ⟨b, off + k * 2 + 1, none⟩ = some p.2.v /\ Ls .u8 W p.2.ad p.2.cap p.2.bs
theorem own_enr {w : World} {base n : Nat} {v : Value} {l : List E1} (h : w.ownsRow base 192 2 v n (ev l)) (hn : l.length = n) (hl : ∀ p ∈ l, Ls .u8 w p.2.ad p.2.cap p.2.bs) : ∃ a cap, v = .slice a n cap /\ EnR w a l := by
 have h' := h
 rcases h.2 with ⟨e, h0⟩ | ⟨g, cap, cur, rfl, hg, _, hc, _⟩
 ·exact Xb103
 ·refine ⟨_, cap, rfl, fun k p hp => ⟨g, 0, rfl, ?_, ?_, hl p (List.mem_of_getElem? hp)⟩⟩
  ·have hk := (List.getElem?_eq_some_iff.1 hp).1
   rw [Nat.zero_add, h'.cellAt (k * 2) Xt0]
   exact (ev_at l k p hp).1
  ·have hk := (List.getElem?_eq_some_iff.1 hp).1
   rw [Nat.zero_add, h'.cellAt (k * 2 + 1) Xt0]
   exact (ev_at l k p hp).2
def enS (L : List E1) : List (Int × List Int) := L.map fun p => (p.1, p.2.bs)
def Qu_ (f m : Nat) (R : List P1) (K : List Int) : List (Int × List Int) := (List.range m).map fun (i : Nat) => (((f + 1 + i : Nat) : Int), zu_ ((R.map P1.bs).getD (i + 1) []) K)
theorem entL_succ (f m : Nat) (R : List P1) (K : List Int) : Qu_ f (m + 1) R K = Qu_ f m R K ++ [(((f + 1 + m : Nat) : Int), zu_ ((R.map P1.bs).getD (m + 1) []) K)] := by simp [Qu_, List.range_succ]
theorem y0_ (f m : Nat) (R : List P1) (K : List Int) : (Qu_ f m R K).length = m := by simp [Qu_]
def jg_ (R : List P1) : Bool := decide (R.length = 0) || y4_ R
def Qt_ (j : Job) (t : Int) (R : List P1) (K : List Int) : List (Int × List Int) × Int :=
 if (trV j t (-1)).2.2.2 && yA_ K.length && jg_ R then (Qu_ (trV j t (-1)).1.toNat (min (j.T.getD t.toNat 0).toNat (R.length - 1)) R K, 0) else ([], 2)
theorem nmL_mem : ∀ (T : List Int) (s : Nat) (p : Int × Int), p ∈ nmL s T -> ∃ k, k < T.length /\ p.1 = ((s + k : Nat) : Int)
 | [], s, p, h => by simp [nmL] at h
 | x :: r, s, p, h => by
  simp only [nmL, List.mem_append] at h
  rcases h with h | h
  ·simp only [rowN, List.mem_map] at h
   obtain ⟨i, _, rfl⟩ := h
   exact ⟨0, by simp, by simp⟩
  ·obtain ⟨k, h1, h2⟩ := nmL_mem r (s + 1) p h
   exact ⟨k + 1, by simp; omega, by rw [h2]; congr 1; omega⟩
theorem jI_ {p : Tr -> Bool} : ∀ {l : List Tr}, (zO_ p l).2.2.2 = true -> ∃ x ∈ l, p x = true /\ zO_ p l = ((x.1 : Int), x.2.1, x.2.2, true)
 | [], h => by simp [zO_] at h
 | x :: r, h => by
  by_cases e : p x = true
  ·exact ⟨x, by simp, e, by rw [zO_, if_pos e]⟩
  ·rw [zO_, if_neg e] at h
   obtain ⟨y, h1, h2, h3⟩ := jI_ h
   exact ⟨y, by simp [h1], h2, by rw [zO_, if_neg e]; exact h3⟩
theorem trV_facts {j : Job} {t : Int} (hj : j.T.length = j.n) (h : (trV j t (-1)).2.2.2 = true) : ∃ k f : Nat, t = (k : Int) /\ k < j.T.length /\ okB j = true /\ f <= 12 /\ (trV j t (-1)).1 = (f : Int) := by
 obtain ⟨x, hx, hp, e⟩ := jI_ h
 have hn : okB j = true := by
  by_cases ho : okB j = true
  ·exact ho
  ·rw [qE_ (by simpa using ho)] at hx; simp [idx] at hx
 obtain ⟨i, h1, h2⟩ := Qa_ _ _ _ hx
 have hm : (x.2.1, x.2.2) ∈ yc_ j := List.mem_of_getElem? h1
 rw [xv_ hn] at hm
 obtain ⟨k, h3, h4⟩ := nmL_mem _ _ _ hm
 have hp2 := of_decide_eq_true hp
 refine ⟨k, x.1, by rw [← hp2.1]; simpa using h4, h3, hn, ?_, by show (zO_ _ _).1 = _; rw [e]⟩
 have h5 := (List.getElem?_eq_some_iff.1 h1).1
 have := QN_ j hj
 omega
structure EnI (base f m : Nat) (R : List P1) (K : List Int) (v : Value) (wr : World) : Prop where
 ex : ∃ L : List E1, enS L = Qu_ f m R K /\ wr.ownsRow base 192 2 v m (ev L) /\ ∀ p ∈ L, wr.ownsRow base 5 1 p.2.v p.2.bs.length (iv .u8 p.2.bs)
theorem EnI.below {base f m : Nat} {R : List P1} {K : List Int} {v : Value} {w w' : World} (h : EnI base f m R K v w) (b : Below w.heap.size w w') : EnI base f m R K v w' := by
 obtain ⟨L, h1, h2, h3⟩ := h.ex
 exact ⟨L, h1, ze_ h2 b, fun p hp => ze_ (h3 p hp) b⟩
end
end Go.Proofs.YthmofoldmdafoaaGreat
namespace Go.Proofs.YthmofoldmdafoaaGreat.K8.SM
open Go.Lib (hid)
open Go.Proofs.Tryz
def wd (f : Nat -> Int) : Nat -> Int
 | 0 => 0
 | i + 1 => wd f i + f i * 2 ^ (56 - 8 * i)
end Go.Proofs.YthmofoldmdafoaaGreat.K8.SM
namespace Go.Proofs.YthmofoldmdafoaaGreat.K8
open Go.Lib (hid)
open Go.Proofs.Tryz
open Go.ChangeShapes Go.WideShapes Go.ChangeAt Go.RowKit
open SM
set_option linter.unusedVariables false
set_option linter.unusedSimpArgs false
theorem zc_ {a b : Bool} (h : a = b) : Ending.returned (.bool a) = .returned (.bool b) := by rw [h]
theorem za_ {w a b : World} (h : Below w.heap.size w a) (k : Below a.heap.size a b) : Below w.heap.size w b := h.trans (k.mono h.size)
def cnt (len : Nat) : Nat := (max len 1 - 1) / 8 + 1
def slW (f : Nat -> Int) (len i : Nat) : Int := wd (fun k => f (8 * i + k)) (min (len - 8 * i) 8)
def slL (len i : Nat) : Nat := min (len - 8 * i) 9
end Go.Proofs.YthmofoldmdafoaaGreat.K8
namespace Go.Proofs.YthmofoldmdafoaaGreat.K8
open Go.Lib (hid)
open Go.Proofs.Tryz
open Go.ChangeShapes Go.WideShapes Go.ChangeAt Go.RowKit
open SM
set_option linter.unusedVariables false
set_option linter.unusedSimpArgs false
def cmpV (a b : Int) : Int := if a < b then -1 else if b < a then 1 else 0
def cmpS (x m y n : Int) : Int := if cmpV x y ≠ 0 then cmpV x y else cmpV m n
end Go.Proofs.YthmofoldmdafoaaGreat.K8
namespace Go.Proofs.YthmofoldmdafoaaGreat.K8
open Go.Lib (hid)
open Go.Proofs.Tryz
open Go.ChangeShapes Go.WideShapes Go.ChangeAt Go.RowKit Go.Shelf
open SM
set_option linter.unusedVariables false
set_option linter.unusedSimpArgs false
attribute [local go_sem] Oper.semAt_some
theorem yG_ {w w' : World} (h : Below w.heap.size w w') : w.grownBy w' none := ⟨h.os, h.tape, h.output, h.size, fun k hk _ => h.block k hk⟩
def ofV (f : Nat -> Int) (len i : Nat) : Int × Int × Int := if i < cnt len then (slW f len i, (slL len i : Nat), 0) else (0, 0, 2)
def KC (Bo : Nat) (W W' : World) : Prop := W.heap.size <= W'.heap.size /\ ∀ j o, j ≠ Bo -> W.heap[j]? = some o -> o.isCells = true -> W'.heap[j]? = some o
abbrev Sl := Nat × Int × Int
def encs (x : Sl) : Array Value := #[.int .i64 (x.1 : Int), .agg #[.int .u64 x.2.1, .int .i64 x.2.2]]
theorem zG_ (b off j : Nat) : (⟨b, off, none⟩ : Addr).add j = ⟨b, off + j, none⟩ := by
 unfold Addr.add
 by_cases h : j = 0 <;> simp [h]
end Go.Proofs.YthmofoldmdafoaaGreat.K8
namespace Go.Proofs.YthmofoldmdafoaaGreat.K8
open Go.Lib (hid)
open Go.Proofs.Tryz
open Go.ChangeShapes Go.WideShapes Go.ChangeAt Go.RowKit Go.Shelf
open SM
set_option linter.unusedVariables false
set_option linter.unusedSimpArgs false
attribute [local go_sem] Oper.semAt_some
theorem jm_ {n : Nat} {P : Program} {c : Code} {Q : Exit -> Act -> World -> Prop} {a : Act} {w : World} (h : c.wpIn Fence.wide n P (Exit.noGoto Q) a w) : (Code.scope c).wpIn Fence.wide n P Q a w :=
 wpIn_wide.2 (wp_scope_straight (wpIn_wide.1 h))
theorem zf_ {W W' : World} {B : Nat} {t : TypeId} {v : Value} (h : Boxed W B t v) (hb : Below W.heap.size W W') : Boxed W' B t v := (hb.block B h.lt).trans h
def othV (fb : Nat -> Int) (lb : Nat) (x : Sl) : Int := cmpS x.2.1 x.2.2 (ofV fb lb x.1).1 (ofV fb lb x.1).2.1
def goes (fb : Nat -> Int) (lb : Nat) (x : Sl) : Prop := othV fb lb x = 0 /\ (ofV fb lb x.1).2.2 = 0
instance (fb : Nat -> Int) (lb : Nat) (x : Sl) : Decidable (goes fb lb x) := inferInstanceAs (Decidable (_ /\ _))
end Go.Proofs.YthmofoldmdafoaaGreat.K8
namespace Go.Proofs.YthmofoldmdafoaaGreat.K8
open Go.Lib (hid)
open Go.Proofs.Tryz
open SM
set_option linter.unusedVariables false
set_option linter.unusedSimpArgs false
def Both (fa : Nat -> Int) (la : Nat) (fb : Nat -> Int) (lb i : Nat) : Prop := 8 * i + 8 < la /\ 8 * i + 8 < lb /\ ∀ k < 8, fa (8 * i + k) = fb (8 * i + k)
def Sh (fa : Nat -> Int) (la : Nat) (fb : Nat -> Int) (lb n : Nat) : Prop := (∀ i < n, Both fa la fb lb i) /\ ¬ Both fa la fb lb n
end Go.Proofs.YthmofoldmdafoaaGreat.K8
namespace Go.Proofs.YthmofoldmdafoaaGreat
open Go.ChangeShapes Go.WideShapes Go.ChangeAt Go.RowKit
open Go.Lib (hid)
open Go.Proofs.Tryz
section
open Go.Shelf
end
section
open Go.Maps
structure RV where
 ra : Option Addr
 rc : Nat
 R : List P1
def RV.v (r : RV) : Value := .slice r.ra r.R.length r.rc
def RV.P (r : RV) : List (List Int) := r.R.map P1.bs
def yh_ (L : List (List Int × RV)) : List Pr := L.map fun x => (x.1, x.2.P)
def zH_ (K : List Int) : Prop := Byt K /\ 1 <= K.length /\ K.length <= 32
def rOk (R : List (List Int)) : Prop := 1 <= R.length /\ R.length <= 3 /\ ∀ f ∈ R, Byt f /\ f.length <= 24
def tOk (t : List Pr) : Prop := z1_ t /\ ∀ p ∈ t, zH_ p.1 /\ rOk p.2
theorem tOk.set {t : List Pr} (h : tOk t) {K : List Int} (hK : zH_ K) {R : List (List Int)} (hR : R ≠ [] -> rOk R) : tOk (xT_ t K R) := ⟨qP_ h.1 K R, fun p hp => by
 rcases xw_.1 hp with hp | ⟨rfl, hr⟩
 ·exact h.2 p hp.1
 ·exact ⟨hK, hR hr⟩⟩
theorem jS_ (L : List (List Int × RV)) (K : List Int) (r : RV) (hr : r.P ≠ []) : yh_ (xY_ L K (some r)) = xT_ (yh_ L) K r.P := by
 unfold yh_ xY_ xT_
 rw [if_neg hr]
 simp only [List.map_append, List.filter_map]
 rfl
theorem tabP_del (L : List (List Int × RV)) (K : List Int) : yh_ (xY_ L K none) = xT_ (yh_ L) K [] := by
 unfold yh_ xY_ xT_
 rw [if_pos rfl]
 simp only [List.map_append, List.filter_map]
 rfl
theorem yR_ (L : List (List Int × RV)) (K : List Int) : y9_ (yh_ L) K = (zU_ L K).map RV.P := by
 unfold yh_ y9_ zU_
 rw [List.find?_map]
 have : ((fun p : Pr => decide (p.1 = K)) ∘ fun x : List Int × RV => (x.1, x.2.P)) = fun x => decide (x.1 = K) := rfl
 rw [this]
 cases List.find? (fun x => decide (x.1 = K)) L <;> rfl
structure Md where
 p : Nat
 j : Job
 bt : Nat
 tc : Nat
 tabs : List (Nat × List (List Int × RV))
def Md.cs (m : Md) : Array Value := #[.int .i64 m.j.w, .int .i64 m.j.l, .int .i64 m.j.d, .int .i64 m.j.c, .int .i64 m.j.k, .int .i64 m.j.e, .slice m.j.a m.j.n m.j.cap, .slice (some ⟨m.bt, 0, none⟩) m.tabs.length m.tc]
def Md.P (m : Md) : List (List Pr) := m.tabs.map fun x => yh_ x.2
structure MdS (m : Md) (W : World) : Prop where
 box : zg_ W m.p m.cs 89
 tab : ∀ k x, m.tabs[k]? = some x -> W.cell? ⟨m.bt, k, none⟩ = some (.map (some x.1))
 job : z2_ W m.j
structure MdR (S : Nat -> Prop) (W : World) (m : Md) : Prop where
 st : zs_ S W (MdS m)
 maps : ∀ x ∈ m.tabs, Mp W x.1 RV.v x.2
 rows : ∀ x ∈ m.tabs, ∀ e ∈ x.2, zs_ S W (fun W' => RdR W' e.2.ra e.2.R)
 ok : okB m.j = true
 len : m.tabs.length = m.j.n
 cap : m.tabs.length <= m.tc
 nod : (m.tabs.map Prod.fst).Nodup
 hS : ∀ x ∈ m.tabs, S x.1
 lim : ∀ x ∈ m.tabs, tOk (yh_ x.2)
theorem MdR.off {S S' T : Nat -> Prop} {W W' : World} {m : Md} (h : MdR S W m) (o : Off T W W') (hT : ∀ k, T k -> S k) (hm : ∀ x ∈ m.tabs, ¬ T x.1) (hs : ∀ k, S' k -> S k ∨ W.heap.size <= k) (hs' : ∀ x ∈ m.tabs, S' x.1) : MdR S' W' m :=
 ⟨h.st.step (o.mono hT) hs, fun x hx => (h.maps x hx).off o (hm x hx), fun x hx e he => (h.rows x hx e he).step (o.mono hT) hs, h.ok, h.len, h.cap, h.nod, hs', h.lim⟩
theorem MdR.below {S : Nat -> Prop} {W W' : World} {m : Md} (h : MdR S W m) (b : Below W.heap.size W W') : MdR S W' m := h.off (T := fun _ => False) (Off.of b) (fun _ h => h.elim) (fun _ _ h => h) (fun _ h => .inl h) h.hS
theorem Md.P_len (m : Md) : m.P.length = m.tabs.length := by simp [Md.P]
theorem MdR.c {S : Nat -> Prop} {W : World} {m : Md} (h : MdR S W m) : W.cell? ⟨m.p, 7, none⟩ = some (.slice (some ⟨m.bt, 0, none⟩) m.tabs.length m.tc) := by
 rw [h.st.now.box.cell]; rfl
theorem MdR.few {S : Nat -> Prop} {W : World} {m : Md} (h : MdR S W m) : 1 <= m.tabs.length /\ m.tabs.length <= 4 := by
 rw [h.len]; exact okB_n h.ok
theorem zX_ {S : Nat -> Prop} {m : Md} {w : World} (h : MdR S w m) : Calls prog 51 #[.pointer (some ⟨m.p, 0, none⟩)] w fun e w' => e = .returned (.bool false) /\ w = w' := by
 have h0 := h.c
 have h1 := h.few
 have h2 : ((m.tabs.length : Int) == 0) = false := by simp; intro e; rw [e] at h1; simp at h1
 clear h
 go_enter func51, ntmps51
 exact Xb19
theorem yp_ (w : World) : Calls prog 51 #[.pointer none] w fun e w' => e = .returned (.bool true) /\ w = w' := by
 go_enter func51, ntmps51
 exact Xb19
theorem yV_ {S : Nat -> Prop} {m : Md} {w : World} (h : MdR S w m) (t : Int) : Calls prog 52 #[.pointer (some ⟨m.p, 0, none⟩), .int .i64 t] w fun e w' => e = .returned (.bool (decide (0 <= t /\ t < m.tabs.length))) /\ w = w' := by
 have h0 := h.c
 have HM := hid (zX_ h)
 have h1 := h.few
 clear h
 by_cases a : 0 <= t
 ·by_cases b : t < (m.tabs.length : Int)
  ·have HE := hid (show decide (0 <= t /\ t < (m.tabs.length : Int)) = true by simp [a, b])
   exact Xb32
  ·have HE := hid (show decide (0 <= t /\ t < (m.tabs.length : Int)) = false by simp; intro _; omega)
   exact Xb32
 ·have HE := hid (show decide (0 <= t /\ t < (m.tabs.length : Int)) = false by simp; intro _; omega)
  exact Xb32
end
structure TbV where
 pa : Option Addr
 pc : Nat
 P : List PrV
def tbC (x : TbV) : List Pr := x.P.map prC
structure TbOk (x : TbV) : Prop where
 pn : x.P.length <= 1000000
 ps : ∀ p ∈ x.P, Qp_ p
def TbR (W : World) (a : Option Addr) (L : List TbV) : Prop := ∀ (k : Nat) (x : TbV), L[k]? = some x -> ∃ b off, a = some ⟨b, off, none⟩ /\ W.cell? ⟨b, off + k, none⟩ = some (.slice x.pa x.P.length x.pc) /\ zp_ W x.pa x.P
theorem TbR.below {W W' : World} {a : Option Addr} {L : List TbV} (h : TbR W a L) (hb : Below W.heap.size W W') : TbR W' a L := fun k x hx => by
 obtain ⟨b, off, e, c0, r⟩ := h k x hx
 exact ⟨b, off, e, tcb hb c0, r.below hb⟩
theorem xc_ (a b : Option Addr) (L M : List TbV) (n m ca cb : Nat) (hn : L.length = n) (hm : M.length = m) (hn2 : n <= 1000000) (hm2 : m <= 1000000) (okL : ∀ x ∈ L, TbOk x) (okM : ∀ x ∈ M, TbOk x) (w : World) (hA : TbR w a L) (hB : TbR w b M) :
  Calls prog 45 #[.slice a n ca, .slice b m cb] w fun r w' => r = .returned (.bool (decide (L.map tbC = M.map tbC))) /\ Below w.heap.size w w' := by
 have HR := hid (And.intro hA hB)
 have HN := hid (And.intro hn hm)
 have HOK := hid (And.intro okL okM)
 have hni : (n : Int) <= 1000000 := by omega
 have hmi : (m : Int) <= 1000000 := by omega
 clear hA hB hn hm okL okM
 by_cases hnm : n = m
 ·subst hnm
  have e4 : ((n : Int) != (n : Int)) = false := by simp
  go_enter func45, ntmps45
  go_wp2_with fail
  clear e4
  go_loopw [5] (fun i wr => ∃ k : Nat, k <= n /\ i = .int .i64 (k : Int) /\ Hid ((L.take k).map tbC = (M.take k).map tbC) /\ Hid (Below w.heap.size w wr)) (fun i _ => n - (intOf i).toNat)
  case atStart => exact ⟨0, by omega, rfl, hid rfl, hid (Below.refl _ _)⟩
  case round =>
   obtain ⟨k, hk, rfl, HE, HBW⟩ := hrel
   by_cases hlt : k < n
   ·have d1 : (k : Int) < (n : Int) := by omega
    obtain ⟨x, hx⟩ : ∃ x, L[k]? = some x := ⟨_, List.getElem?_eq_getElem Xt73⟩
    obtain ⟨y, hy⟩ : ∃ y, M[k]? = some y := ⟨_, List.getElem?_eq_getElem Xt74⟩
    obtain ⟨b1, o1, ea, c0, rx⟩ := (HR.out.1.below HBW.out) k x hx
    subst ea
    obtain ⟨b2, o2, eb, e0, ry⟩ := (HR.out.2.below HBW.out) k y hy
    subst eb
    have okx := HOK.out.1 x (List.mem_of_getElem? hx)
    have oky := HOK.out.2 y (List.mem_of_getElem? hy)
    have HXY := hid (And.intro hx hy)
    have HRS := hid (fun W (b : Below wr.heap.size wr W) => yE_ x.pa y.pa x.P y.P x.P.length y.P.length x.pc y.pc rfl rfl okx.pn oky.pn okx.ps oky.ps W (rx.below b) (ry.below b))
    obtain ⟨q, hq⟩ := gtx (decide (x.P.map prC = y.P.map prC))
    rw [hq] at HRS
    have HQ := hid hq
    have HPC := hid (show tbC x = x.P.map prC /\ tbC y = y.P.map prC from ⟨rfl, rfl⟩)
    obtain ⟨xrn, hxrn⟩ := gtx (x.P.length)
    obtain ⟨xra, hxra⟩ := gtx (x.pa)
    obtain ⟨xrc, hxrc⟩ := gtx (x.pc)
    obtain ⟨yrn, hyrn⟩ := gtx (y.P.length)
    obtain ⟨yra, hyra⟩ := gtx (y.pa)
    obtain ⟨yrc, hyrc⟩ := gtx (y.pc)
    rw [hxra, hxrn, hxrc] at c0
    rw [hyra, hyrn, hyrc] at e0
    rw [hxra, hyra, hxrn, hyrn, hxrc, hyrc] at HRS
    have HX5 := hid (fun W (b : Below wr.heap.size wr W) => tcb b c0)
    have HY5 := hid (fun W (b : Below wr.heap.size wr W) => tcb b e0)
    clear c0 e0 rx ry okx oky hx hy hq hxrn hxra hxrc hyrn hyra hyrc
    go_upto_region 6 with (fail)
    rename_i KK hKK
    refine wmo ?_
    refine rgw wr (Below.refl _ _).drew fun hH => ?_
    refine tkq3 0 1 2 ?_
    refine tkr 3 rfl (fun W hSw => by have c0 := HX5.out W hSw; exact tks) ?_
    refine tkq3 4 5 6 ?_
    refine tkr 7 rfl (fun W hSw => by have e0 := HY5.out W hSw; exact tks) ?_
    refine tk1 8 rfl fun K hK => ?_
    go_simp
    refine (HRS.out _ hH).mono ?_; rintro e9 w9 ⟨rfl, hb9⟩
    go_wp2_with fail
    refine hK.out _ _ (za_ hH hb9) fun hH => ?_
    clear hb9
    refine stP ?_
    refine tkq 9 ?_
    refine adn ?_
    skip
    refine hKK _ _ ?_
    have HB9 := hid (za_ HBW.out hH)
    clear hH
    cases q
    ·have HV := hid (show decide (L.map tbC = M.map tbC) = false by
      rw [decide_eq_false_iff_not]
      refine xg_ HXY.out.1 HXY.out.2 ?_
      rw [HPC.out.1, HPC.out.2]
      exact of_decide_eq_false HQ.out)
     exact Xb47
    ·have HEN := hid (show (L.take (k + 1)).map tbC = (M.take (k + 1)).map tbC by
      rw [List.take_add_one, List.take_add_one, HXY.out.1, HXY.out.2, List.map_append, List.map_append, HE.out]
      simp only [Option.toList_some, List.map_cons, List.map_nil, HPC.out.1, HPC.out.2, of_decide_eq_true HQ.out])
     exact Xb51
   ·have d1 : ¬ (k : Int) < (n : Int) := by omega
    have HV := hid (show decide (L.map tbC = M.map tbC) = true by
     have h1 := HE.out
     rw [List.take_of_length_le (by rw [HN.out.1]; omega), List.take_of_length_le (by rw [HN.out.2]; omega)] at h1
     rw [decide_eq_true_eq]; exact h1)
    exact Xb84
 ·have e4 : ((n : Int) != (m : Int)) = true := by rw [bne_iff_ne]; omega
  have HV := hid (show decide (L.map tbC = M.map tbC) = false by
   rw [decide_eq_false_iff_not]
   intro e9
   have := congrArg List.length e9
   rw [List.length_map, List.length_map, HN.out.1, HN.out.2] at this
   exact hnm this)
  clear hnm
  go_enter func45, ntmps45
  exact Xb76
def xm_ (K : List Int) (P : List PrV) : Nat := (P.takeWhile fun y => ltL y.K K).length
def qg_ (K : List Int) (P : List PrV) : Bool := match P[xm_ K P]? with
 | some y => decide (y.K = K)
 | none => false
theorem cntL_at {K : List Int} : ∀ {P : List PrV} {k : Nat}, (∀ y ∈ P.take k, ltL y.K K = true) -> k <= P.length -> (∀ y, P[k]? = some y -> ltL y.K K = false) -> xm_ K P = k
 | [], k, _, hk, _ => by simp at hk; subst hk; rfl
 | x :: P, 0, _, _, h => by
  unfold xm_
  rw [List.takeWhile_cons_of_neg (by rw [h x rfl]; decide)]; rfl
 | x :: P, k + 1, ha, hk, h => by
  have h1 := ha x Xt5
  have ih := cntL_at (K := K) (P := P) (k := k) (fun y hy => ha y (by simp [hy])) (by simpa using hk) (fun y hy => h y (by simpa using hy))
  unfold xm_ at *
  rw [List.takeWhile_cons_of_pos (p := fun y : PrV => ltL y.K K) h1, List.length_cons, ih]
theorem QE_ (p : Nat) (ta ka : Option Addr) (tn tc kn kc t : Nat) (Ts : List TbV) (x : TbV) (K : List Int) (hx : Ts[t]? = some x) (hn : Ts.length = tn) (hn2 : tn <= 1000000) (hK : K.length = kn) (bK : Byt K) (ok : TbOk x) (w : World) (hc : w.cell? ⟨p, 7, none⟩ = some (.slice ta tn tc)) (hT : TbR w ta Ts) (hk : Ls .u8 w ka kc K) :
  Calls prog 59 #[.pointer (some ⟨p, 0, none⟩), .int .i64 (t : Int), .slice ka kn kc] w fun r w' => r = .returned (.tuple #[.int .i64 (xm_ K x.P : Int), .bool (qg_ K x.P)]) /\ Below w.heap.size w w' := by
 have htn : t < tn := by have := (List.getElem?_eq_some_iff.1 hx).1; omega
 obtain ⟨b1, o1, ea, c0, rx⟩ := hT t x hx
 subst ea
 have HM := hid (fun X (b' : Below w.heap.size w X) => (⟨(b'.cell (World.block_lt_of_cell? w _ hc)).trans hc, (b'.cell (World.block_lt_of_cell? w _ c0)).trans c0⟩ : X.cell? ⟨p, 7, none⟩ = some (.slice (some ⟨b1, o1, none⟩) tn tc) /\ X.cell? ⟨b1, o1 + t, none⟩ = some (.slice x.pa x.P.length x.pc)))
 have HP := hid rx
 have HOK := hid ok
 have HKK := hid (And.intro hK hk)
 have HBK := hid bK
 obtain ⟨P, hP⟩ := gtx (x.P)
 obtain ⟨n, hn9⟩ := gtx (P.length)
 obtain ⟨pa, hpa⟩ := gtx (x.pa)
 obtain ⟨pc, hpc⟩ := gtx (x.pc)
 have hpn : n <= 1000000 := by rw [← hn9, ← hP]; exact ok.pn
 have hps := ok.ps
 rw [hP] at hps
 have HPS := hid hps
 rw [hpa, hP, hn9, hpc] at HM
 rw [hpa, hP] at HP
 have HN := hid hn9
 have hni : (n : Int) <= 1000000 := by omega
 have hti : (t : Int) < (tn : Int) := by omega
 have htl : (tn : Int) <= 1000000 := by omega
 rw [hP]
 clear hx hn hn2 hK bK ok hc hT hk c0 rx hP hn9 hpa hpc hps HOK
 go_enter func59, ntmps59
 go_wp2_with fail
 go_loopw [8] (fun i wr => ∃ k : Nat, k <= n /\ i = .int .i64 (k : Int) /\ Hid (∀ y ∈ P.take k, ltL y.K K = true) /\ Hid (Below w.heap.size w wr)) (fun i _ => n - (intOf i).toNat)
 case atStart => exact ⟨0, by omega, rfl, hid Xt81, hid (Below.refl _ _)⟩
 case round =>
  obtain ⟨k, hk, rfl, HA, HBW⟩ := hrel
  have HM5 := hid (fun W (b : Below wr.heap.size wr W) => HM.out W (za_ HBW.out b))
  by_cases hlt : k < n
  ·have d1 : (k : Int) < (n : Int) := by omega
   obtain ⟨y, hy⟩ : ∃ y, P[k]? = some y := ⟨_, List.getElem?_eq_getElem Xt8⟩
   obtain ⟨b2, o2, eb, e0, _, ly, _⟩ := (HP.out.below HBW.out) k y hy
   subst eb
   have oky := HPS.out y (List.mem_of_getElem? hy)
   have HYY := hid hy
   obtain ⟨q, hq⟩ := gtx (ltL y.K K)
   obtain ⟨z, hz⟩ := gtx (decide (y.K = K))
   have HLT := hid hq
   have HEQ := hid hz
   have HQ := hid (show Op.bytesLess (strOfNums y.K).toList (strOfNums K).toList = q by rw [yk_ oky.kb HBK.out]; exact hq)
   have HZ := hid (show ((strOfNums y.K).toList == (strOfNums K).toList) = z by
    rw [← hz]
    apply Bool.eq_iff_iff.2
    rw [beq_iff_eq, decide_eq_true_eq, ByteArray.toList_eq, ByteArray.toList_eq]
    exact ⟨fun h => xG_ oky.kb HBK.out (bytes_inj h), fun h => by rw [h]⟩)
   obtain ⟨YK, hYK⟩ := gtx (y.K)
   obtain ⟨ykn, hykn⟩ := gtx (YK.length)
   obtain ⟨yka, hyka⟩ := gtx (y.ka)
   obtain ⟨ykc, hykc⟩ := gtx (y.kc)
   rw [hyka, hYK, hykn, hykc] at e0
   rw [hyka, hYK, hykc] at ly
   rw [hYK] at HQ HZ
   have HKY := hid (And.intro hykn ly)
   have HY5 := hid (fun W (b : Below wr.heap.size wr W) => tcb b e0)
   clear e0 ly oky hy hq hz hYK hykn hyka hykc
   go_upto_region 2 with (fail)
   rename_i KK hKK
   refine wmo ?_
   refine rgw wr (Below.refl _ _).drew fun hH => ?_
   refine tkq4 0 1 2 3 ?_
   refine tkr 4 rfl Xf19 ?_
   refine tkq2 5 6 ?_
   refine tkr 7 rfl Xf19 ?_
   refine tkq 8 ?_
   refine tkp 9 (.bool true) rfl (.inl ⟨by rfl, ?_⟩) ?_
   ·exact Xb31
   refine tkp 10 (.bool true) rfl (.inl ⟨by rfl, ?_⟩) ?_
   ·exact Xb31
   refine tkq3 11 12 13 ?_
   refine tkr 14 rfl Xf19 ?_
   refine tkq2 15 16 ?_
   refine tkr 17 rfl Xf19 ?_
   refine tkq3 18 19 20 ?_
   refine tkr 21 rfl (fun W hSw => by have e0 := HY5.out W hSw; exact tks) ?_
   refine tkr 22 rfl Xf24 ?_
   refine tkq 23 ?_
   refine tkr 24 rfl (fun W hSw => by have hcv := zA_ W ka kn kc K HKK.out.1 (HKK.out.2.below (za_ HBW.out hSw)).rd; exact tks) ?_
   refine tkp 25 (.bool q) rfl (.inl ⟨by rfl, ?_⟩) ?_
   ·intro W hSw; go_simp; try (first | exact HQ.out | rfl)
   refine tkq 26 ?_
   refine adn ?_
   skip
   refine hKK _ _ ?_
   obtain ⟨w9, hw9⟩ := gty (wr.drew)
   try rw [← hw9] at hH ⊢
   have hHB9 : Below wr.heap.size wr w9 := hH
   have HB9 := hid (za_ HBW.out hHB9)
   clear hH hw9
   cases q
   ·have HC := hid (cntL_at HA.out (by rw [HN.out]; exact hk) (fun y' hy' => by rw [HYY.out] at hy'; cases hy'; exact HLT.out))
    have HH := hid (show qg_ K P = z by unfold qg_; rw [HC.out, HYY.out]; exact HEQ.out)
    go_upto_region 4 with (fail)
    have HM9 := hid (fun W (b : Below w9.heap.size w9 W) => HM5.out W (za_ hHB9 b))
    have HY9 := hid (fun W (b : Below w9.heap.size w9 W) => HY5.out W (za_ hHB9 b))
    rename_i KK hKK
    refine wmo ?_
    refine rgw w9 (Below.refl _ _).drew fun hH => ?_
    refine tkq4 0 1 2 3 ?_
    refine tkq 4 ?_
    refine tkr 5 rfl Xf20 ?_
    refine tkq2 6 7 ?_
    refine tkr 8 rfl Xf20 ?_
    refine tkq 9 ?_
    refine tkp 10 (.bool true) rfl (.inl ⟨by rfl, ?_⟩) ?_
    ·exact Xb31
    refine tkp 11 (.bool true) rfl (.inl ⟨by rfl, ?_⟩) ?_
    ·exact Xb31
    refine tkq3 12 13 14 ?_
    refine tkr 15 rfl Xf20 ?_
    refine tkq2 16 17 ?_
    refine tkr 18 rfl Xf20 ?_
    refine tkq3 19 20 21 ?_
    refine tkr 22 rfl (fun W hSw => by have e0 := HY9.out W hSw; exact tks) ?_
    refine tkr 23 rfl (fun W hSw => by have hcv := zA_ W yka ykn ykc YK HKY.out.1 (HKY.out.2.below (za_ hHB9 hSw)).rd; exact tks) ?_
    refine tkq 24 ?_
    refine tkr 25 rfl (fun W hSw => by have hcv := zA_ W ka kn kc K HKK.out.1 (HKK.out.2.below (za_ HB9.out hSw)).rd; exact tks) ?_
    refine tkp 26 (.bool z) rfl (.inl ⟨by rfl, ?_⟩) ?_
    ·intro W hSw; go_simp; try (first | exact HZ.out | rfl)
    exact Xb65
   ·have HA1 := hid (show ∀ y ∈ P.take (k + 1), ltL y.K K = true from fun y' hy' => by
     rw [List.take_add_one, HYY.out] at hy'
     rcases List.mem_append.1 hy' with h | h
     ·exact HA.out y' h
     ·have h : y' = y := by simpa using h
      rw [h]; exact HLT.out)
    go_wp2_with fail
    go_roundw
    case rel => exact ⟨k + 1, by omega, by go_num, HA1, HB9⟩
    case measure => simp [intOf]; omega
  ·have d1 : ¬ (k : Int) < (n : Int) := by omega
   have HC := hid (cntL_at HA.out (by rw [HN.out]; exact hk) (fun y' hy' => by have := (List.getElem?_eq_some_iff.1 hy').1; have := HN.out; omega))
   have HH := hid (show qg_ K P = false by unfold qg_; rw [HC.out, List.getElem?_eq_none Xt18])
   go_upto_region 2 with (fail)
   rename_i KK hKK
   refine wmo ?_
   refine rgw wr (Below.refl _ _).drew fun hH => ?_
   refine tkq4 0 1 2 3 ?_
   refine tkr 4 rfl Xf19 ?_
   refine tkq2 5 6 ?_
   refine tkr 7 rfl Xf19 ?_
   refine tkq 8 ?_
   refine tkp 9 (.bool false) rfl (.inl ⟨by rfl, ?_⟩) ?_
   ·exact Xb31
   refine tkp 10 (.bool false) rfl (.inl ⟨by rfl, ?_⟩) ?_
   ·exact Xb31
   refine tkn 11 ?_
   refine tkn 12 ?_
   refine tkn 13 ?_
   refine tkn 14 ?_
   refine tkn 15 ?_
   refine tkn 16 ?_
   refine tkn 17 ?_
   refine tkn 18 ?_
   refine tkn 19 ?_
   refine tkn 20 ?_
   refine tkn 21 ?_
   refine tkn 22 ?_
   refine tkn 23 ?_
   refine tkn 24 ?_
   refine tkn 25 ?_
   refine tkq 26 ?_
   refine adn ?_
   skip
   refine hKK _ _ ?_
   obtain ⟨w9, hw9⟩ := gty (wr.drew)
   try rw [← hw9] at hH ⊢
   have hHB9 : Below wr.heap.size wr w9 := hH
   have HB9 := hid (za_ HBW.out hHB9)
   clear hH hw9
   go_upto_region 4 with (fail)
   have HM9 := hid (fun W (b : Below w9.heap.size w9 W) => HM5.out W (za_ hHB9 b))
   rename_i KK hKK
   refine wmo ?_
   refine rgw w9 (Below.refl _ _).drew fun hH => ?_
   refine tkq4 0 1 2 3 ?_
   refine tkq 4 ?_
   refine tkr 5 rfl Xf20 ?_
   refine tkq2 6 7 ?_
   refine tkr 8 rfl Xf20 ?_
   refine tkq 9 ?_
   refine tkp 10 (.bool false) rfl (.inl ⟨by rfl, ?_⟩) ?_
   ·exact Xb31
   refine tkp 11 (.bool false) rfl (.inl ⟨by rfl, ?_⟩) ?_
   ·exact Xb31
   refine tkn 12 ?_
   refine tkn 13 ?_
   refine tkn 14 ?_
   refine tkn 15 ?_
   refine tkn 16 ?_
   refine tkn 17 ?_
   refine tkn 18 ?_
   refine tkn 19 ?_
   refine tkn 20 ?_
   refine tkn 21 ?_
   refine tkn 22 ?_
   refine tkn 23 ?_
   refine tkn 24 ?_
   refine tkn 25 ?_
   refine tkn 26 ?_
   exact Xb65
theorem yJ_ {W : World} {base base' n s : Nat} {e : TypeId} {v : Value} {xs : List Value} (h : W.ownsRow base e s v n xs) (hb : base' <= base) : W.ownsRow base' e s v n xs := ⟨h.1, h.2.imp id fun ⟨g, cap, cur, e0, b0, r⟩ => ⟨g, cap, cur, e0, Nat.le_trans hb b0, r⟩⟩
theorem CpR.lo {base base' k : Nat} {R : List P1} {v : Value} {W : World} (h : CpR base R k v W) (hb : base' <= base) : CpR base' R k v W := by
 obtain ⟨R', h1, h2, h3⟩ := h.ex
 exact ⟨R', h1, yJ_ h2 hb, fun p hp => yJ_ (h3 p hp) hb⟩
def GetR (w : World) (o : Option (List P1)) (r : Ending) (w' : World) : Prop :=
 (match o with
  | some R => ∃ v, r = .returned (.tuple #[v, .bool true]) /\ CpR w.heap.size R R.length v w'
  | none => r = .returned (.tuple #[.slice none 0 0, .bool false])) /\ Below w.heap.size w w'
def getP (K : List Int) (P : List PrV) : Option (List P1) := if qg_ K P then (P[xm_ K P]?).map PrV.R else none
theorem getP_no {K : List Int} {P : List PrV} (h : qg_ K P = false) : getP K P = none := by unfold getP; rw [h]; rfl
theorem getP_yes {K : List Int} {P : List PrV} (h : qg_ K P = true) : ∃ y, P[xm_ K P]? = some y /\ getP K P = some y.R := by
 unfold getP
 rw [h]
 unfold qg_ at h
 cases hy : P[xm_ K P]? with
 | none => rw [hy] at h; cases h
 | some y => exact ⟨y, rfl, rfl⟩
theorem rget_law (p : Nat) (ta ka : Option Addr) (tn tc kn kc t : Nat) (Ts : List TbV) (x : TbV) (K : List Int) (hx : Ts[t]? = some x) (hn : Ts.length = tn) (hn2 : tn <= 1000000) (hK : K.length = kn) (bK : Byt K) (ok : TbOk x) (hl : ∀ y ∈ x.P, y.R.length <= 9000 /\ ∀ q ∈ y.R, q.bs.length <= 9000) (w : World) (hc : w.cell? ⟨p, 7, none⟩ = some (.slice ta tn tc)) (hT : TbR w ta Ts) (hk : Ls .u8 w ka kc K) :
  Calls prog 19 #[.pointer (some ⟨p, 0, none⟩), .int .i64 (t : Int), .slice ka kn kc] w (GetR w (getP K x.P)) := by
 have htn : t < tn := by have := (List.getElem?_eq_some_iff.1 hx).1; omega
 have HF := hid (QE_ p ta ka tn tc kn kc t Ts x K hx hn hn2 hK bK ok w hc hT hk)
 obtain ⟨b1, o1, ea, c0, rx⟩ := hT t x hx
 subst ea
 have HM := hid (fun X (b' : Below w.heap.size w X) => (⟨(b'.cell (World.block_lt_of_cell? w _ hc)).trans hc, (b'.cell (World.block_lt_of_cell? w _ c0)).trans c0⟩ : X.cell? ⟨p, 7, none⟩ = some (.slice (some ⟨b1, o1, none⟩) tn tc) /\ X.cell? ⟨b1, o1 + t, none⟩ = some (.slice x.pa x.P.length x.pc)))
 have HP := hid rx
 have HL := hid hl
 have hti : (t : Int) < (tn : Int) := by omega
 have ht0 : ¬ (t : Int) < 0 := by omega
 have htl : (tn : Int) <= 1000000 := by omega
 have hpn : x.P.length <= 1000000 := ok.pn
 obtain ⟨m0, m1⟩ := HM.out w (Below.refl _ _)
 clear hx hn hn2 hK bK ok hl hc hT hk c0 rx
 go_enter func19, ntmps19
 go_wp2_with fail
 refine HF.out.mono ?_; rintro r w1 ⟨rfl, hb1⟩
 have HB1 := hid hb1
 clear m0 m1
 obtain ⟨m0, m1⟩ := HM.out w1 hb1
 clear hb1
 cases hh : qg_ K x.P
 ·have HG := hid (getP_no hh)
  clear hh
  go_wp2_with fail
  go_ret2
  exact ⟨by rw [HG.out]; rfl, HB1.out⟩
 ·obtain ⟨y, hy, hg⟩ := getP_yes hh
  have HG := hid hg
  have hk2 := (List.getElem?_eq_some_iff.1 hy).1
  obtain ⟨b2, o2, eb, _, e1, _, ry⟩ := (HP.out.below HB1.out) _ y hy
  have HPA := hid eb
  obtain ⟨l1, l2⟩ := HL.out y (List.mem_of_getElem? hy)
  have HRC := hid (xI_ y.ra y.R y.R.length y.rc rfl l1 l2 w1 ry)
  rw [eb] at m1
  obtain ⟨k, hk⟩ := gtx (xm_ K x.P)
  obtain ⟨pn, hpn2⟩ := gtx (x.P.length)
  rw [hk] at e1 hk2 ⊢
  rw [hpn2] at m1 hk2 hpn
  have hki : (k : Int) < (pn : Int) := by omega
  have hkn : (pn : Int) <= 1000000 := by omega
  clear hh hy hg l1 l2 hk hpn2 eb ry
  go_wp2_with fail
  refine HRC.out.mono ?_; rintro r w2 ⟨⟨v, rfl, hv⟩, hb2⟩
  have HV := hid hv
  have HB2 := hid (za_ HB1.out hb2)
  clear hv hb2
  go_wp2_with fail
  go_ret2
  refine ⟨?_, HB2.out⟩
  rw [HG.out]
  exact ⟨v, rfl, HV.out.lo HB1.out.size⟩
section
open Go.Maps
theorem zero50 (w : World) : (zeroValue 50).run prog w = .ok (.slice none 0 0) w := by kernel_rfl
theorem RV.bound {r : RV} (h : rOk r.P) : r.R.length <= 9000 /\ ∀ q ∈ r.R, q.bs.length <= 9000 := by
 obtain ⟨h1, h2, h3⟩ := h
 unfold RV.P at h1 h2 h3
 rw [List.length_map] at h1 h2
 exact ⟨by omega, fun q hq => by have := (h3 q.bs (List.mem_map.2 ⟨q, hq, rfl⟩)).2; omega⟩
theorem MdR.row {S : Nat -> Prop} {W : World} {m : Md} (h : MdR S W m) {t : Nat} {x : Nat × List (List Int × RV)} (hx : m.tabs[t]? = some x) {e : List Int × RV} (he : e ∈ x.2) : zH_ e.1 /\ rOk e.2.P := by
 have := (h.lim x (List.mem_of_getElem? hx)).2 (e.1, e.2.P) (List.mem_map.2 ⟨e, he, rfl⟩)
 exact this
def PGetR (w : World) (o : Option (List P1)) (r : Ending) (w' : World) : Prop :=
 (∃ v, r = .returned (.tuple #[v, .bool o.isSome]) /\ CpR w.heap.size (o.getD []) (o.getD []).length v w') /\ Below w.heap.size w w'
theorem mget_law {S : Nat -> Prop} {m : Md} {w : World} (h : MdR S w m) (t : Nat) (x : Nat × List (List Int × RV)) (hx : m.tabs[t]? = some x) (ka : Option Addr) (kn kc : Nat) (K : List Int) (hK : K.length = kn) (hkn : kn <= 1000000) (bK : Byt K) (hk : Ls .u8 w ka kc K) :
  Calls prog 18 #[.pointer (some ⟨m.p, 0, none⟩), .int .i64 (t : Int), .slice ka kn kc] w (PGetR w ((zU_ x.2 K).map RV.R)) := by
 have hin := List.mem_of_getElem? hx
 have htn : t < m.tabs.length := (List.getElem?_eq_some_iff.1 hx).1
 have HH := hid (yV_ h (t : Int))
 have hti : (t : Int) < (m.tabs.length : Int) := by omega
 have ht0 : ¬ (t : Int) < 0 := by omega
 have htl : (m.tabs.length : Int) <= 1000000 := by have := h.few; omega
 have hd : decide ((0 : Int) <= t /\ (t : Int) < m.tabs.length) = true := by simp; omega
 rw [hd] at HH
 have kmx : K.length <= maxLen := by unfold maxLen; omega
 have HB := hid (fun X (b' : Below w.heap.size w X) => (⟨(b'.cell (World.block_lt_of_cell? w _ h.c)).trans h.c, (h.below b').st.now.tab t x hx, zA_ X ka kn kc K hK (hk.below b').rd, (h.below b').maps x hin |>.look (t := 90) (e := 50) underlying90 (zero50 X) bK kmx⟩ : X.cell? ⟨m.p, 7, none⟩ = some (.slice (some ⟨m.bt, 0, none⟩) m.tabs.length m.tc) /\ X.cell? ⟨m.bt, t, none⟩ = some (.map (some x.1)) /\ (convert 42 9 (.slice ka kn kc)).run prog X = .ok (.string (strOfNums K)) X /\ (Instr.lookup 90 (.map (some x.1)) (.string (strOfNums K)) true).run prog X = .ok (.tuple #[((zU_ x.2 K).map RV.v).getD (.slice none 0 0), .bool (zU_ x.2 K).isSome]) X))
 have HR := hid (fun y (hy : zU_ x.2 K = some y) => (⟨(h.rows x hin _ ((yd_ (h.maps x hin).ris).1 hy)).now, (h.row hx ((yd_ (h.maps x hin).ris).1 hy)).2⟩ : RdR w y.ra y.R /\ rOk y.P))
 clear hin hx htn h hK bK hk hd kmx
 obtain ⟨o, ho⟩ := gtx (zU_ x.2 K)
 rw [ho] at HB HR ⊢
 clear ho
 go_enter func18, ntmps18
 go_upto_region 3 with (go_at_call 52; refine HH.out.mono ?_; rintro e w' ⟨rfl, rfl⟩)
 cases o with
 | none =>
  have HX := hid (fun W (b : Below w.heap.size w W) => (HB.out W b : W.cell? ⟨m.p, 7, none⟩ = some (.slice (some ⟨m.bt, 0, none⟩) m.tabs.length m.tc) /\ W.cell? ⟨m.bt, t, none⟩ = some (.map (some x.1)) /\ (convert 42 9 (.slice ka kn kc)).run prog W = .ok (.string (strOfNums K)) W /\ (Instr.lookup 90 (.map (some x.1)) (.string (strOfNums K)) true).run prog W = .ok (.tuple #[.slice none 0 0, .bool false]) W))
  refine rgw w (Below.refl _ _).drew fun hH => ?_
  refine tkq3 0 1 2 ?_
  refine tkr 3 rfl Xf1 ?_
  refine tkq2 4 5 ?_
  refine tkr 6 rfl Xf3 ?_
  refine tkq 7 ?_
  refine tkr 8 rfl Xf2 ?_
  refine tkr 9 rfl Xf6 ?_
  refine tkq4 10 11 12 13 ?_
  refine tkq 14 ?_
  refine adn ?_
  skip
  generalize w.drew = W1 at hH ⊢
  go_wp2_with fail
  refine (zZ_ none [] 0 0 rfl Xt0 (fun _ h => by simp at h) _ (RdR.nil _ _)).mono ?_; rintro r w1 ⟨⟨v, rfl, hc⟩, hb1⟩
  exact Xb70
 | some y =>
  have HX := hid (fun W (b : Below w.heap.size w W) => (HB.out W b : W.cell? ⟨m.p, 7, none⟩ = some (.slice (some ⟨m.bt, 0, none⟩) m.tabs.length m.tc) /\ W.cell? ⟨m.bt, t, none⟩ = some (.map (some x.1)) /\ (convert 42 9 (.slice ka kn kc)).run prog W = .ok (.string (strOfNums K)) W /\ (Instr.lookup 90 (.map (some x.1)) (.string (strOfNums K)) true).run prog W = .ok (.tuple #[.slice y.ra y.R.length y.rc, .bool true]) W))
  obtain ⟨hr, hok⟩ := HR.out y rfl
  have HR2 := hid hr
  have HO2 := hid (RV.bound hok)
  clear hr hok
  refine rgw w (Below.refl _ _).drew fun hH => ?_
  refine tkq3 0 1 2 ?_
  refine tkr 3 rfl Xf1 ?_
  refine tkq2 4 5 ?_
  refine tkr 6 rfl Xf3 ?_
  refine tkq 7 ?_
  refine tkr 8 rfl Xf2 ?_
  refine tkr 9 rfl Xf6 ?_
  refine tkq4 10 11 12 13 ?_
  refine tkq 14 ?_
  refine adn ?_
  skip
  generalize w.drew = W1 at hH ⊢
  go_wp2_with fail
  refine (zZ_ y.ra y.R _ y.rc rfl HO2.out.1 HO2.out.2 _ (HR2.out.below hH)).mono ?_; rintro r w1 ⟨⟨v, rfl, hc⟩, hb1⟩
  exact Xb70
end
theorem zQ_ (e : Int) (w : World) : Calls prog 12 #[.int .i64 e] w fun r w' => r = .returned (.int .i64 e) /\ w = w' := by
 go_enter func12, ntmps12
 go_wp2_with fail
 go_ret
 exact ⟨rfl, rfl⟩
def lenT (Ts : List TbV) : Nat := (Ts.map fun x => x.P.length).sum
theorem QT_ {Ts : List TbV} {k : Nat} {x : TbV} (h : Ts[k]? = some x) : lenT (Ts.take (k + 1)) = lenT (Ts.take k) + x.P.length := by
 unfold lenT; rw [List.take_add_one, h]; simp
theorem lenT_le {Ts : List TbV} {m : Nat} (h : ∀ x ∈ Ts, x.P.length <= m) : ∀ k, lenT (Ts.take k) <= k * m
 | 0 => by simp [lenT]
 | k + 1 => by
  cases hx : Ts[k]? with
  | none =>
   rw [List.take_add_one, hx, Option.toList_none, List.append_nil, Nat.succ_mul]
   have := lenT_le h k; omega
  | some x =>
   rw [QT_ hx, Nat.succ_mul]
   have := lenT_le h k; have := h x (List.mem_of_getElem? hx); omega
theorem rlen_law (p : Nat) (ta : Option Addr) (tn tc : Nat) (Ts : List TbV) (hn : Ts.length = tn) (hn2 : tn <= 1000000) (ok : ∀ x ∈ Ts, x.P.length <= 1000000) (w : World) (hc : w.cell? ⟨p, 7, none⟩ = some (.slice ta tn tc)) (hT : TbR w ta Ts) :
  Calls prog 44 #[.pointer (some ⟨p, 0, none⟩)] w fun r w' => r = .returned (.int .i64 (lenT Ts : Int)) /\ Below w.heap.size w w' := by
 have HT := hid hT
 have HN := hid hn
 have HL := hid (fun k => lenT_le ok k)
 have HOK := hid ok
 have HM := hid (fun X (b' : Below w.heap.size w X) => (b'.cell (World.block_lt_of_cell? w _ hc)).trans hc)
 have hni : (tn : Int) <= 1000000 := by omega
 clear hn ok hc hT
 go_enter func44, ntmps44
 go_wp2_with fail
 go_loopw [3, 4] (fun s i wr => ∃ k : Nat, k <= tn /\ i = .int .i64 (k : Int) /\ s = .int .i64 (lenT (Ts.take k) : Int) /\ Hid (Below w.heap.size w wr)) (fun _ i _ => tn - (intOf i).toNat)
 case atStart => exact ⟨0, by omega, rfl, rfl, hid (Below.refl _ _)⟩
 case round =>
  obtain ⟨k, hk, rfl, rfl, HBW⟩ := hrel
  have m0 := HM.out _ HBW.out
  by_cases hlt : k < tn
  ·have d1 : (k : Int) < (tn : Int) := by omega
   obtain ⟨x, hx⟩ : ∃ x, Ts[k]? = some x := ⟨_, List.getElem?_eq_getElem Xt8⟩
   obtain ⟨b1, o1, ea, c0, _⟩ := (HT.out.below HBW.out) k x hx
   subst ea
   have hs := HL.out k
   have hx2 := HOK.out x (List.mem_of_getElem? hx)
   have HS := hid (QT_ hx)
   obtain ⟨xl, hxl⟩ := gtx (x.P.length)
   obtain ⟨s, hsx⟩ := gtx (lenT (Ts.take k))
   rw [hxl] at c0 hx2 HS
   rw [hsx] at hs HS ⊢
   have hsb : s <= 1000000000000 := by
    have := Nat.mul_le_mul_right 1000000 (show k <= 1000000 by omega)
    omega
   have w3 : IntKind.i64.wrap ((s : Int) + (xl : Int)) = ((s + xl : Nat) : Int) := by rw [IntKind.wrap_i64]; omega
   clear hx hxl hsx hs
   go_wp2_with fail
   go_roundw
   case rel => exact ⟨k + 1, by omega, by go_num, by rw [HS.out]; rfl, HBW⟩
   case measure => simp [intOf]; omega
  ·have d1 : ¬ (k : Int) < (tn : Int) := by omega
   have HV := hid (show lenT (Ts.take k) = lenT Ts by rw [List.take_of_length_le Xt18])
   go_wp2_with fail
   go_ret
   exact ⟨by rw [← HV.out]; rfl, HBW.out⟩
def pcl (x : PrV) : List Value := [.slice x.ka x.K.length x.kc, .slice x.ra x.R.length x.rc]
def zi_ (xs : List PrV) : List Value := (xs.map pcl).flatten
theorem zw_ (a b : List PrV) : zi_ (a ++ b) = zi_ a ++ zi_ b := by simp [zi_]
theorem xJ_ (a : List PrV) : (zi_ a).length = a.length * 2 := by
 induction a with
 | nil => rfl
 | cons x r ih =>
  unfold zi_ at *
  rw [List.map_cons, List.flatten_cons, List.length_append, ih, List.length_cons]
  simp only [pcl, List.length_cons, List.length_nil]
  omega
theorem prcells_one (a : List PrV) : ∀ u ∈ zi_ a, u.oneCell' = true := fun u hu => by
 obtain ⟨l, hl, hu⟩ := List.mem_flatten.1 hu
 obtain ⟨p, _, rfl⟩ := List.mem_map.1 hl
 simp only [pcl, List.mem_cons, List.not_mem_nil, or_false] at hu
 rcases hu with rfl | rfl <;> rfl
theorem QV_ : (prog.info? 78).map (fun i => (i.zero, i.size, i.bytes)) = some (some (.agg #[.slice none 0 0, .slice none 0 0]), 2, 48) := by kernel_rfl
theorem ql_ : ∀ (xs : List PrV) (k i : Nat) (x : PrV), xs[k]? = some x -> i < 2 -> (zi_ xs)[k * 2 + i]? = (pcl x)[i]?
 | [], k, i, x, h, _ => by simp at h
 | y :: xs, 0, i, x, h, hi => by
  simp only [List.getElem?_cons_zero, Option.some.injEq] at h
  subst h
  unfold zi_
  rw [List.map_cons, List.flatten_cons, List.getElem?_append_left (by simp [pcl]; omega)]
  simp
 | y :: xs, k + 1, i, x, h, hi => by
  have ih := ql_ xs k i x (by simpa using h) hi
  unfold zi_ at *
  rw [List.map_cons, List.flatten_cons, List.getElem?_append_right (by simp [pcl]; omega)]
  rw [show (k + 1) * 2 + i - (pcl y).length = k * 2 + i by simp [pcl]; omega]
  exact ih
theorem QI_ {W : World} {a : Addr} {xs : List PrV} (h : zp_ W (some a) xs) : ∀ (j : Nat) (u : Value), (zi_ xs)[j]? = some u -> W.cell? (a.add j) = some u := fun j u hj => by
 have hl := (List.getElem?_eq_some_iff.1 hj).1
 rw [xJ_] at hl
 obtain ⟨x, hx⟩ : ∃ x, xs[j / 2]? = some x := ⟨_, List.getElem?_eq_getElem Xt0⟩
 obtain ⟨b, off, e, c0, c1, _⟩ := h (j / 2) x hx
 cases e
 rw [zG_]
 have hm := Nat.div_add_mod j 2
 have h3 := Nat.mod_lt j (show 2 > 0 by omega)
 have key := ql_ xs (j / 2) (j % 2) x hx h3
 rw [show j / 2 * 2 + j % 2 = j by omega] at key
 rw [hj] at key
 have hcases : j % 2 = 0 ∨ j % 2 = 1 := by omega
 rcases hcases with e | e
 ·rw [e] at key
  simp only [pcl, List.getElem?_cons_zero, Option.some.injEq] at key
  rw [key, show off + j = off + j / 2 * 2 by omega]; exact c0
 ·rw [e] at key
  simp only [pcl, List.getElem?_cons_zero, List.getElem?_cons_succ, Option.some.injEq] at key
  rw [key, show off + j = off + j / 2 * 2 + 1 by omega]; exact c1
theorem yi_ {W : World} {base n c : Nat} {a : Option Addr} {xs : List PrV} (h : W.ownsRow base 78 2 (.slice a n c) n (zi_ xs)) (hn : xs.length = n) (ok : ∀ x ∈ xs, Ls .u8 W x.ka x.kc x.K /\ RdR W x.ra x.R) : zp_ W a xs := fun k x hx => by
 have hk := (List.getElem?_eq_some_iff.1 hx).1
 have hc := fun i hi => ql_ xs k i x hx hi
 have h' := h
 rcases h.2 with ⟨e0, h0⟩ | ⟨g, cap, cur, e0, _⟩
 ·omega
 ·cases e0
  refine ⟨g, 0, rfl, ?_, ?_, ok x (List.mem_of_getElem? hx)⟩
  ·rw [Nat.zero_add, show k * 2 = k * 2 + 0 by omega, h'.cellAt (k * 2 + 0) Xt0]
   exact hc 0 Xt0
  ·rw [Nat.zero_add, h'.cellAt (k * 2 + 1) Xt0]
   exact hc 1 Xt0
theorem xC_ (w : World) (ty : TypeId) (base : Nat) (v : Value) (n : Nat) (xs : List PrV) (hown : w.ownsRow base 78 2 v n (zi_ xs))
  (ad : Option Addr) (c len : Nat) (ys : List PrV) (hlen : ys.length = len) (hR : zp_ w ad ys) (hnil : ad = none -> c = 0) (hb : n + len <= 2097152) (hbase : base <= w.heap.size) :
  ∃ v' w', (Builtin.append_ #[69, 69] ty #[v, .slice ad len c]).run prog w = .ok v' w' /\ w'.ownsRow base 78 2 v' (n + len) (zi_ (xs ++ ys)) /\ w.grownBy w' v.ownBlock := by
 subst hlen
 obtain ⟨i0, hi, hz0, hz1, hz2⟩ := info_parts QV_
 rcases ad with _ | ad
 ·obtain rfl := hnil rfl
  have : ys = [] := by
   exact Xb108
  subst this
  exact ⟨v, w, run_append_owned_none (P := prog) (w := w) base 69 ty 78 i0 2 underlying69 hi v n (zi_ xs) hown, by simpa using hown, ⟨rfl, rfl, rfl, Nat.le_refl _, fun _ _ _ => rfl⟩⟩
 ·obtain ⟨v', w', h1, h2, h3, _⟩ := run_append_own (P := prog) w base 69 ty 78 i0 (.agg #[.slice none 0 0, .slice none 0 0]) 2 48 underlying69 hi hz0 hz1 hz2 rfl Xt4 v n (zi_ xs) hown ad ys.length c (zi_ ys) (xJ_ ys) (QI_ hR) (prcells_one ys) Xt15 Xt0 hbase
  exact ⟨v', w', h1, by rw [zw_]; exact h2, h3⟩
theorem jK_ {ops : Array Oper} {rest : List Oper} {o : Oper} {a : Act} {w : World} {Q : Exit -> Act -> World -> Prop} (hgd : o.guard = none) (s x : Operand)
  (ho : o.op = .call { callee := .builtin .append, args := #[s, x], argTypes := #[69, 69] })
  (base : Nat) (v : Value) (n : Nat) (xs : List PrV) (hs : a.eval s = v) (hown : w.ownsRow base 78 2 v n (zi_ xs))
  (ad : Option Addr) (c len : Nat) (ys : List PrV) (hlen : ys.length = len) (hx : a.eval x = .slice ad len c) (hR : zp_ w ad ys) (hnil : ad = none -> c = 0) (hb : n + len <= 2097152) (hbase : base <= w.heap.size)
  (h : ∀ v' w', w'.ownsRow base 78 2 v' (n + len) (zi_ (xs ++ ys)) -> w.grownBy w' v.ownBlock -> wpList prog ops Q rest (a.put o.dst v') w') :
  wpList prog ops Q (o :: rest) a w :=
 wpList_plain hgd fun Kt hK => by
  obtain ⟨v', w', h1, h2, h3⟩ := xC_ w o.type base v n xs hown ad c len ys hlen hR hnil hb hbase
  unfold Oper.wp execOp
  simp only [ho, resolve, invoke, builtin, Sem.run_bind, Sem.run_pure, Result.andThen_ok, List.map_toArray, List.map_cons, List.map_nil, hs, hx, h1]
  exact hK _ _ (h v' w' h2 h3)
theorem z8_ {ops : Array Oper} {o : Oper} {a : Act} {w : World} {Kt : Act -> World -> Prop} {Q : Exit -> Act -> World -> Prop} {Z : Prop} (hgd : o.guard = none) (s x : Operand)
  (ho : o.op = .call { callee := .builtin .append, args := #[s, x], argTypes := #[69, 69] })
  (base : Nat) (v : Value) (n : Nat) (xs : List PrV) (hs : a.eval s = v) (hown : w.ownsRow base 78 2 v n (zi_ xs))
  (ad : Option Addr) (c len : Nat) (ys : List PrV) (hlen : ys.length = len) (hx : a.eval x = .slice ad len c) (hR : zp_ w ad ys) (hnil : ad = none -> c = 0) (hb : n + len <= 2097152) (hbase : base <= w.heap.size)
  (h : ∀ v' w', w'.ownsRow base 78 2 v' (n + len) (zi_ (xs ++ ys)) -> w.grownBy w' v.ownBlock -> Kt (a.put o.dst v') w') :
  if Region.wanted o (yielded ops a.tmps) = true then Oper.wp prog o a w Kt Q else Z := by
 have hw : Region.wanted o (yielded ops a.tmps) = true := by simp [Region.wanted, hgd]
 rw [if_pos hw]
 obtain ⟨v', w', h1, h2, h3⟩ := xC_ w o.type base v n xs hown ad c len ys hlen hR hnil hb hbase
 exact Xb30
theorem zp_.take {W : World} {a : Option Addr} {L : List PrV} (h : zp_ W a L) (k : Nat) : zp_ W a (L.take k) := fun j x hx => by
 rw [List.getElem?_take] at hx
 split at hx
 ·exact h j x hx
 ·cases hx
theorem zp_.drop {W : World} {b off : Nat} {L : List PrV} (h : zp_ W (some ⟨b, off, none⟩) L) (k : Nat) : zp_ W (some ⟨b, off + k * 2, none⟩) (L.drop k) := fun j x hx => by
 rw [List.getElem?_drop] at hx
 obtain ⟨b', off', e, c0, c1, r⟩ := h (k + j) x hx
 cases e
 refine ⟨b, off + k * 2, rfl, ?_, ?_, r⟩
 ·rw [show off + k * 2 + j * 2 = off + (k + j) * 2 by omega]; exact c0
 ·rw [show off + k * 2 + j * 2 + 1 = off + (k + j) * 2 + 1 by omega]; exact c1
theorem set_place {K : List Int} {R : List (List Int)} {P : List PrV} (h : z1_ (P.map prC)) :
  (P.take (xm_ K P)).map prC ++ ((if R = [] then [] else [(K, R)]) ++ (P.drop (xm_ K P + (if qg_ K P then 1 else 0))).map prC) = xT_ (P.map prC) K R := by
 unfold xT_
 have e1 : ∀ P : List PrV, z1_ (P.map prC) -> (P.take (xm_ K P)).map prC = (P.map prC).filter fun p => ltL p.1 K := fun P => by
  induction P with
  | nil => intro _; rfl
  | cons x P ih =>
   intro h
   obtain ⟨h1, h2⟩ := List.pairwise_cons.1 h
   unfold xm_ at *
   by_cases hx : ltL x.K K = true
   ·rw [List.takeWhile_cons_of_pos (p := fun y : PrV => ltL y.K K) hx, List.length_cons, List.take_succ_cons, List.map_cons, List.map_cons, List.filter_cons_of_pos (by exact hx), ih h2]
   ·rw [List.takeWhile_cons_of_neg (p := fun y : PrV => ltL y.K K) hx, List.length_nil, List.take_zero, List.map_nil]
    symm
    rw [List.filter_eq_nil_iff]
    intro p hp hlt
    rcases List.mem_cons.1 hp with rfl | hp
    ·exact hx hlt
    ·exact hx (zF_ (h1 p hp) hlt)
 have e2 : ∀ P : List PrV, z1_ (P.map prC) -> (P.drop (xm_ K P + (if qg_ K P then 1 else 0))).map prC = (P.map prC).filter fun p => ltL K p.1 := fun P => by
  induction P with
  | nil => intro _; simp
  | cons x P ih =>
   intro h
   obtain ⟨h1, h2⟩ := List.pairwise_cons.1 h
   by_cases hx : ltL x.K K = true
   ·have ec : xm_ K (x :: P) = xm_ K P + 1 := by unfold xm_; rw [List.takeWhile_cons_of_pos (p := fun y : PrV => ltL y.K K) hx, List.length_cons]
    have eh : qg_ K (x :: P) = qg_ K P := by unfold qg_; rw [ec, List.getElem?_cons_succ]
    rw [ec, eh, show xm_ K P + 1 + (if qg_ K P = true then 1 else 0) = (xm_ K P + (if qg_ K P = true then 1 else 0)) + 1 by omega, List.drop_succ_cons, ih h2, List.map_cons, List.filter_cons_of_neg (by rw [show ltL K (prC x).1 = false from yD_ hx]; decide)]
   ·have ec : xm_ K (x :: P) = 0 := by unfold xm_; rw [List.takeWhile_cons_of_neg (p := fun y : PrV => ltL y.K K) hx]; rfl
    have eh : qg_ K (x :: P) = decide (x.K = K) := by unfold qg_; rw [ec, List.getElem?_cons_zero]
    have hgt : ∀ p ∈ P.map prC, ltL K p.1 = true := fun p hp => by
     have hxp := h1 p hp
     cases hk : ltL K x.K
     ·have : x.K = K := xh_ (by simpa using hx) hk
      rw [← this]; exact hxp
     ·exact zF_ hk hxp
    rw [ec, eh]
    by_cases hk : x.K = K
    ·rw [show decide (x.K = K) = true by simp [hk], if_pos rfl, Nat.zero_add, List.drop_succ_cons, List.drop_zero, List.map_cons, List.filter_cons_of_neg (by rw [show ltL K (prC x).1 = false by show ltL K x.K = false; rw [hk, zR_]]; decide), List.filter_eq_self.2 hgt]
    ·rw [show decide (x.K = K) = false by simp [hk], if_neg Xt4, Nat.add_zero, List.drop_zero]
     have : ltL K x.K = true := x8_ (by simpa using hx) (fun e => hk e.symm)
     rw [List.map_cons, List.filter_cons_of_pos (by exact this), List.filter_eq_self.2 hgt]
 rw [e1 P h, e2 P h]
theorem hi69 (W : World) (a : Option Addr) (n c i : Nat) (hi : i <= n) (hnc : n <= c) : (Instr.slice 69 (.slice a n c) .none (some (.int .i64 (i : Int))) .none).run prog W = .ok (.slice a i c) W := by
 obtain ⟨i0, hi0, hz0, hz1, hz2⟩ := info_parts QV_
 have hel : prog.elem 69 = 78 := by simp [Program.elem, underlying69]
 rw [run_slice_h (P := prog) (w := W) 69 a n c Xt50 .i64 i Xt0 Xt0]
 have hs : ((sizeOf (prog.elem 69)).run prog W) = .ok 2 W := by rw [hel]; simp [sizeOf, typeInfo, hi0, hz1]
 rw [hs]
 exact Xb109
theorem lo69 (W : World) (a : Option Addr) (P : List PrV) (n c i : Nat) (hn : P.length = n) (hi : i <= n) (hnc : n <= c) (hna : a = none -> c = 0) (hP : zp_ W a P) :
  ∃ a', (∀ W', (Instr.slice 69 (.slice a n c) (some (.int .i64 (i : Int))) .none .none).run prog W' = .ok (.slice a' (n - i) (c - i)) W') /\ zp_ W a' (P.drop i) /\ (a' = none -> c - i = 0) := by
 obtain ⟨i0, hi0, hz0, hz1, hz2⟩ := info_parts QV_
 have hel : prog.elem 69 = 78 := by simp [Program.elem, underlying69]
 have hs : ∀ W', ((sizeOf (prog.elem 69)).run prog W') = .ok 2 W' := fun W' => by rw [hel]; simp [sizeOf, typeInfo, hi0, hz1]
 by_cases hc : c = i
 ·refine ⟨a, fun W' => ?_, fun k x hx => ?_, fun _ => by omega⟩
  ·rw [run_slice_l (P := prog) (w := W') 69 a n c Xt50 .i64 i Xt0 Xt0, hs]
   cases a <;> simp [sliced, Result.andThen, Addr.add, hc]
  ·rw [List.getElem?_drop, List.getElem?_eq_none Xt0] at hx
   cases hx
 ·cases a with
  | none => have := hna rfl; omega
  | some ad =>
   obtain ⟨b, off, sp⟩ := ad
   by_cases h0 : P = []
   ·refine ⟨some ((⟨b, off, sp⟩ : Addr).add (i * 2)), fun W' => ?_, fun k x hx => ?_, fun h => by cases h⟩
    ·rw [run_slice_l (P := prog) (w := W') 69 (some ⟨b, off, sp⟩) n c Xt50 .i64 i Xt0 Xt0, hs]
     exact Xb121
    ·subst h0; simp at hx
   ·obtain ⟨x, hx⟩ : ∃ x, P[0]? = some x := ⟨_, List.getElem?_eq_getElem Xt68⟩
    obtain ⟨b', off', e, _⟩ := hP 0 x hx
    cases e
    refine ⟨some ⟨b, off + i * 2, none⟩, fun W' => ?_, hP.drop i, fun h => by cases h⟩
    rw [run_slice_l (P := prog) (w := W') 69 (some ⟨b, off, none⟩) n c Xt50 .i64 i Xt0 Xt0, hs]
    exact Xb123
theorem QL_ {W : World} {base n : Nat} {v : Value} {R : List P1} (h : W.ownsRow base 42 1 v n (R.map P1.v)) (hn : R.length = n) (ok : ∀ p ∈ R, W.ownsRow base 5 1 p.v p.bs.length (iv .u8 p.bs)) :
  ∃ a c, v = .slice a n c /\ RdR W a R /\ n <= c /\ (a = none -> c = 0) := by
 have h' := h
 rcases h.2 with ⟨e0, h0⟩ | ⟨g, cap, cur, e0, _, _, hc, _⟩
 ·subst h0
  have : R = [] := List.length_eq_zero_iff.1 hn
  subst this
  exact ⟨none, 0, e0, fun k p hp => by simp at hp, Nat.le_refl _, fun _ => rfl⟩
 ·subst e0
  refine ⟨_, cap, rfl, fun k p hp => ?_, hc, fun e => by cases e⟩
  have hk : k < n := by have := (List.getElem?_eq_some_iff.1 hp).1; omega
  obtain ⟨a, c, e, l⟩ := yy_ (ok p (List.mem_of_getElem? hp)) rfl
  unfold P1.v at e
  cases e
  refine ⟨g, 0, rfl, ?_, l.1⟩
  rw [Nat.zero_add, h'.cellAt k Xt0, List.getElem?_map, hp]
  rfl
theorem CpR.lies {base n : Nat} {R : List P1} {v : Value} {W : World} (h : CpR base R n v W) (hn : R.length = n) :
  ∃ a c R', v = .slice a n c /\ RdR W a R' /\ R'.length = n /\ R'.map P1.bs = R.map P1.bs /\ n <= c /\ (a = none -> c = 0) /\ W.ownsRow base 42 1 v n (R'.map P1.v) /\ ∀ p ∈ R', W.ownsRow base 5 1 p.v p.bs.length (iv .u8 p.bs) := by
 obtain ⟨R', h1, h2, h3⟩ := h.ex
 rw [List.take_of_length_le Xt0] at h1
 have hl : R'.length = n := by have := congrArg List.length h1; rw [List.length_map, List.length_map] at this; omega
 obtain ⟨a, c, e, r, l1, l2⟩ := QL_ h2 hl h3
 exact ⟨a, c, R', e, r, hl, h1, l1, l2, h2, h3⟩
section
variable {P : Program} {md : Region.Mode} {ops : Array Oper} {Q : Exit -> Act -> World -> Prop} {S : World -> Prop} {z : Nat}
def xV_ (md : Region.Mode) (ops : Array Oper) (z i : Nat) : Bool := match ops[z]? with | some o => o.after.toList.any fun e => Region.binds md e && e.on == i | none => false
def zL_ (P : Program) (md : Region.Mode) (ops : Array Oper) (Q : Exit -> Act -> World -> Prop) (S : World -> Prop) (z : Nat) : Nat -> Array Bool -> Act -> World -> Prop
 | 0, listed, a, w => Region.ready md ops listed = [] /\ Q .normal a w
 | fuel + 1, listed, a, w =>
  (Region.ready md ops listed = [] -> Q .normal a w) /\
  ∀ i ∈ Region.ready md ops listed, wpOp P ops Q i (fun a' w' => (i ≠ z -> listed.getD z true = false -> S w') /\ zL_ P md ops Q S z fuel (listed.setIfInBounds i true) a' w') a w
theorem any_of_L : ∀ (fuel : Nat) (listed : Array Bool) (a : Act) (w : World), zL_ P md ops Q S z fuel listed a w -> wpAny P md ops Q fuel listed a w
 | 0, _, _, _, h => h
 | fuel + 1, _, _, _, h => ⟨h.1, fun i hi => wpOp_mono (fun a' w' h' => any_of_L fuel _ a' w' h'.2) (h.2 i hi)⟩
theorem get_set {listed : Array Bool} {i z : Nat} (h : i ≠ z) (b : Bool) : (listed.setIfInBounds i b).getD z true = listed.getD z true := by
 simp only [Array.getD_eq_getD_getElem?, Array.getElem?_setIfInBounds_ne h]
theorem get_own {listed : Array Bool} {z : Nat} : (listed.setIfInBounds z true).getD z true = true := by
 by_cases h : z < listed.size
 ·simp [Array.getD_eq_getD_getElem?, h]
 ·simp [Array.getD_eq_getD_getElem?, Array.getElem?_eq_none (Nat.le_of_not_lt h)]
theorem Qq_ {i : Nat} {oi : Oper} {v : Value} {T : World -> Prop} (hT : xV_ md ops z i = true /\ T = S ∨ T = fun _ => True) (hiz : i ≠ z) (hi : ops[i]? = some oi) (hsel : ∀ (j : Nat) (o : Oper) cs b, ops[j]? = some o -> o.op ≠ .select cs b)
  (hQ : ∀ c a w, Q (.panic c) (a.put oi.dst v) w -> Q (.panic c) a w) :
  ∀ (fuel : Nat) (listed : Array Bool) (a : Act) (w : World),
   (∀ j oj, ops[j]? = some oj -> j ≠ i -> listed.getD j true = false -> (∀ e ∈ oj.after, Region.binds md e = true -> e.on ≠ i) -> oi.apart ops oj = true) ->
   i ∈ Region.ready md ops listed -> YieldsIf P ops T oi v a -> (xV_ md ops z i = true -> T = S -> listed.getD z true = false) -> (listed.getD z true = false -> S w) ->
   zL_ P md ops Q S z fuel (listed.setIfInBounds i true) (a.put oi.dst v) w -> zL_ P md ops Q S z (fuel + 1) listed a w
 | 0, listed, a, w, _, hr, hy, hzl, hS, H => by
  have hTw : T w := by
   exact Xb120
  refine ⟨fun h => (by rw [h] at hr; cases hr), fun j hj => ?_⟩
  by_cases hji : j = i
  ·subst hji
   exact hy.wpOp hi hTw ⟨fun _ => hS, H⟩
  ·have := ready_mono hj hji
   rw [H.1] at this
   cases this
 | fuel + 1, listed, a, w, hfree, hr, hy, hzl, hS, H => by
  have hTw : T w := by
   exact Xb120
  refine ⟨fun h => (by rw [h] at hr; cases hr), fun j hj => ?_⟩
  by_cases hji : j = i
  ·subst hji
   exact hy.wpOp hi hTw ⟨fun _ => hS, H⟩
  have hH := H.2 j (ready_mono hj hji)
  obtain ⟨hjun, oj, hoj, hall⟩ := mem_ready.1 hj
  have hnot : ∀ e ∈ oj.after, Region.binds md e = true -> e.on ≠ i := fun e he hb heq => by
   have hx := hall e he hb
   have h0 := (mem_ready.1 hr).1
   rw [heq] at hx
   rcases Nat.lt_or_ge i listed.size with h' | h'
   ·simp [h'] at h0 hx; rw [h0] at hx; cases hx
   ·simp [Array.getElem?_eq_none h'] at hx
  have hjz : xV_ md ops z i = true -> j ≠ z := fun hw e => by
   subst e
   simp only [xV_, hoj, List.any_eq_true, Bool.and_eq_true, Array.mem_toList_iff, beq_iff_eq] at hw
   obtain ⟨e, he, h1, h2⟩ := hw
   exact hnot e he h1 h2
  have hput := wpOp_putIf hoj (hfree j oj hoj hji hjun hnot) (fun cs b => hsel i oi cs b hi) (fun cs b => hsel j oj cs b hoj) hQ hy hH
  have hfree' : ∀ k ok, ops[k]? = some ok -> k ≠ i -> (listed.setIfInBounds j true).getD k true = false -> (∀ e ∈ ok.after, Region.binds md e = true -> e.on ≠ i) -> oi.apart ops ok = true := fun k ok hk hki hun hno => by
   refine hfree k ok hk hki ?_ hno
   by_cases hjk : j = k
   ·subst hjk; exact hjun
   ·rw [getD_set_ne true hjk] at hun; exact hun
  refine wpOp_mono (fun a' w' h3 => ?_) hput
  have hSj : j ≠ z -> listed.getD z true = false -> S w' := fun h1 h2 => h3.2.1 h1 (by rw [get_set hiz]; exact h2)
  refine ⟨hSj, Qq_ hT hiz hi hsel hQ fuel (listed.setIfInBounds j true) a' w' hfree' (ready_mono hr (Ne.symm hji)) h3.1 (fun h1 h2 => by rw [get_set (hjz h1)]; exact hzl h1 h2) (fun h => ?_) ?_⟩
  ·by_cases e : j = z
   ·subst e
    rw [get_own] at h; cases h
   ·rw [get_set e] at h
    exact hSj e h
  ·rw [Array.setIfInBounds_comm _ _ hji]
   exact h3.2.2
theorem wpAnyL_take {i : Nat} {oi : Oper} {v : Value} {fuel : Nat} {listed : Array Bool} {a : Act} {w : World} (hz : xV_ md ops z i = true) (hiz : (i == z) = false) (hzl : listed.getD z true = false) (hi : ops[i]? = some oi)
  (hs : Region.noSelect ops = true) (hf : Region.free md ops listed i = true) (hr : (Region.ready md ops listed).contains i = true)
  (hQ : ∀ c a w, Q (.panic c) (a.put oi.dst v) w -> Q (.panic c) a w) (hy : YieldsIf P ops S oi v a) (hS : S w)
  (h : zL_ P md ops Q S z fuel (listed.setIfInBounds i true) (a.put oi.dst v) w) : zL_ P md ops Q S z (fuel + 1) listed a w :=
 Qq_ (T := S) (Or.inl ⟨hz, rfl⟩) (by simpa using hiz) hi (Region.noSelect_spec hs) hQ fuel listed a w (Region.free_spec hi hf) (by simpa using hr) hy (fun _ _ => hzl) (fun _ => hS) h
theorem wpAnyL_free {i : Nat} {oi : Oper} {v : Value} {fuel : Nat} {listed : Array Bool} {a : Act} {w : World} (hz : xV_ md ops z i = false) (hiz : (i == z) = false) (hi : ops[i]? = some oi)
  (hs : Region.noSelect ops = true) (hf : Region.free md ops listed i = true) (hr : (Region.ready md ops listed).contains i = true)
  (hQ : ∀ c a w, Q (.panic c) (a.put oi.dst v) w -> Q (.panic c) a w) (hy : YieldsIf P ops (fun _ => True) oi v a) (hS : S w)
  (h : zL_ P md ops Q S z fuel (listed.setIfInBounds i true) (a.put oi.dst v) w) : zL_ P md ops Q S z (fuel + 1) listed a w :=
 Qq_ (T := fun _ => True) (Or.inr rfl) (by simpa using hiz) hi (Region.noSelect_spec hs) hQ fuel listed a w (Region.free_spec hi hf) (by simpa using hr) hy (fun h1 _ => by rw [hz] at h1; cases h1) (fun _ => hS) h
theorem zz_ {listed : Array Bool} {a : Act} {w : World} (hr : Region.ready md ops listed = []) (h : Q .normal a w) : ∀ fuel, zL_ P md ops Q S z fuel listed a w
 | 0 => ⟨hr, h⟩
 | _ + 1 => ⟨fun _ => h, by rw [hr]; simp⟩
def AllL (P : Program) (md : Region.Mode) (ops : Array Oper) (Q : Exit -> Act -> World -> Prop) (S : World -> Prop) (z fuel : Nat) (listed : Array Bool) (a : Act) (w : World) (rs : List Nat) : Prop :=
 ∀ i ∈ rs, wpOp P ops Q i (fun a' w' => (i ≠ z -> listed.getD z true = false -> S w') /\ zL_ P md ops Q S z fuel (listed.setIfInBounds i true) a' w') a w
theorem AllL.nil {fuel : Nat} {listed : Array Bool} {a : Act} {w : World} : AllL P md ops Q S z fuel listed a w [] := fun _ h => by cases h
theorem AllL.cons {fuel : Nat} {listed : Array Bool} {a : Act} {w : World} {i : Nat} {o : Oper} {rs : List Nat} (ho : ops[i]? = some o)
  (h : ∀ K' : Act -> World -> Prop, Shut (∀ a w, S w -> (S w -> zL_ P md ops Q S z fuel (listed.setIfInBounds i true) a w) -> K' a w) -> if Region.wanted o (yielded ops a.tmps) = true then Oper.wp P o a w K' Q else K' (a.put o.dst undef) w)
  (hs : AllL P md ops Q S z fuel listed a w rs) : AllL P md ops Q S z fuel listed a w (i :: rs) := fun j hj => by
 rcases List.mem_cons.1 hj with rfl | hj
 ·exact wpOp_step ho (fun K' hK => h K' (fun a w hS hW => hK a w ⟨fun _ _ => hS, hW hS⟩))
 ·exact hs j hj
theorem AllL.last {fuel : Nat} {listed : Array Bool} {a : Act} {w : World} {o : Oper} (ho : ops[z]? = some o)
  (h : ∀ K' : Act -> World -> Prop, Shut (∀ a w, zL_ P md ops Q S z fuel (listed.setIfInBounds z true) a w -> K' a w) -> if Region.wanted o (yielded ops a.tmps) = true then Oper.wp P o a w K' Q else K' (a.put o.dst undef) w) : AllL P md ops Q S z fuel listed a w [z] := fun j hj => by
 rcases List.mem_singleton.1 hj with rfl
 exact wpOp_step ho (fun K' hK => h K' (fun a w hW => hK a w ⟨fun hne => absurd rfl hne, hW⟩))
theorem ym_ {rs : List Nat} {fuel : Nat} {listed : Array Bool} {a : Act} {w : World} (hr : Region.ready md ops listed = rs) (hne : rs ≠ [])
  (h : AllL P md ops Q S z fuel listed a w rs) : zL_ P md ops Q S z (fuel + 1) listed a w := ⟨fun h0 => absurd (hr ▸ h0) hne, hr ▸ h⟩
theorem zr_ {id : Nat} {a : Act} {w : World} (hm : P.follows .mixedOrders = true) (hS : S w.drew)
  (h : S w.drew -> zL_ P .any ops Q S z ops.size (Array.replicate ops.size false) a w.drew) : (Code.region id ops true).wp P Q a w :=
 wp_region_any hm (any_of_L _ _ _ _ (h hS))
end
theorem tlk {P : Program} {md : Region.Mode} {ops : Array Oper} {Q : Exit -> Act -> World -> Prop} {S : World -> Prop} {z : Nat} (i : Nat) {v : Value} {oi : Oper} {fuel : Nat} {listed : Array Bool} {a a' : Act} {w : World}
 (hi : (ops.toList.drop i).head? = some oi) (hy : ∀ w, S w -> (execOp a.eval oi).run P w = .ok (.value v) w)
 (h : zL_ P md ops Q S z fuel (listed.setIfInBounds i true) a' w)
 (hw : Region.wanted oi (yielded ops a.tmps) = true := by rfl)
 (ha : a' = a.put oi.dst v := by (simp only [Act.put, List.setIfInBounds_toArray, List.set_cons_zero, List.set_cons_succ]; rfl))
 (hb : (xV_ md ops z i && !(i == z) && !listed.getD z true && Region.noSelect ops && Region.free md ops listed i && (Region.ready md ops listed).contains i) = true := by kernel_rfl)
 (hQ : ∀ c a w, Q (.panic c) (a.put oi.dst v) w -> Q (.panic c) a w := by intro _ _ _ h; exact h) (hS : S w := by assumption) : zL_ P md ops Q S z (fuel + 1) listed a w := by
 simp only [Bool.and_eq_true, Bool.not_eq_true'] at hb
 exact wpAnyL_take hb.1.1.1.1.1 hb.1.1.1.1.2 hb.1.1.1.2 (by simpa [List.head?_drop] using hi) hb.1.1.2 hb.1.2 hb.2 hQ (.inl ⟨hw, hy⟩) hS (ha ▸ h)
theorem tlf {P : Program} {md : Region.Mode} {ops : Array Oper} {Q : Exit -> Act -> World -> Prop} {S : World -> Prop} {z : Nat} (i : Nat) {v : Value} {oi : Oper} {fuel : Nat} {listed : Array Bool} {a a' : Act} {w : World}
 (hi : (ops.toList.drop i).head? = some oi) (hy : ∀ w, True -> (execOp a.eval oi).run P w = .ok (.value v) w)
 (h : zL_ P md ops Q S z fuel (listed.setIfInBounds i true) a' w)
 (hw : Region.wanted oi (yielded ops a.tmps) = true := by rfl)
 (ha : a' = a.put oi.dst v := by (simp only [Act.put, List.setIfInBounds_toArray, List.set_cons_zero, List.set_cons_succ]; rfl))
 (hb : (!xV_ md ops z i && !(i == z) && Region.noSelect ops && Region.free md ops listed i && (Region.ready md ops listed).contains i) = true := by kernel_rfl)
 (hQ : ∀ c a w, Q (.panic c) (a.put oi.dst v) w -> Q (.panic c) a w := by intro _ _ _ h; exact h) (hS : S w := by assumption) : zL_ P md ops Q S z (fuel + 1) listed a w := by
 simp only [Bool.and_eq_true, Bool.not_eq_true'] at hb
 exact wpAnyL_free hb.1.1.1.1 hb.1.1.1.2 (by simpa [List.head?_drop] using hi) hb.1.1.2 hb.1.2 hb.2 hQ (.inl ⟨hw, hy⟩) hS (ha ▸ h)
theorem tl1 {P : Program} {md : Region.Mode} {ops : Array Oper} {Q : Exit -> Act -> World -> Prop} {S : World -> Prop} {z : Nat} {fuel : Nat} {listed : Array Bool} {a : Act} {w : World} (i : Nat) {o : Oper}
 (ho : (ops.toList.drop i).head? = some o)
 (h : ∀ K' : Act -> World -> Prop, Shut (∀ a w, S w -> (S w -> zL_ P md ops Q S z fuel (listed.setIfInBounds i true) a w) -> K' a w) -> if Region.wanted o (yielded ops a.tmps) = true then Oper.wp P o a w K' Q else K' (a.put o.dst undef) w)
 (hr : Region.ready md ops listed = [i] := by kernel_rfl) : zL_ P md ops Q S z (fuel + 1) listed a w := ym_ hr Xt5 (AllL.cons (by simpa [List.head?_drop] using ho) h AllL.nil)
theorem tlz {P : Program} {md : Region.Mode} {ops : Array Oper} {Q : Exit -> Act -> World -> Prop} {S : World -> Prop} {z : Nat} {fuel : Nat} {listed : Array Bool} {a : Act} {w : World} {o : Oper}
 (ho : (ops.toList.drop z).head? = some o)
 (h : ∀ K' : Act -> World -> Prop, Shut (∀ a w, zL_ P md ops Q S z fuel (listed.setIfInBounds z true) a w -> K' a w) -> if Region.wanted o (yielded ops a.tmps) = true then Oper.wp P o a w K' Q else K' (a.put o.dst undef) w)
 (hr : Region.ready md ops listed = [z] := by kernel_rfl) : zL_ P md ops Q S z (fuel + 1) listed a w := ym_ hr Xt5 (AllL.last (by simpa [List.head?_drop] using ho) h)
theorem zJ_ {W : World} {base n c s : Nat} {e : TypeId} {a : Option Addr} {xs : List Value} (h : W.ownsRow base e s (.slice a n c) n xs) : n <= c /\ (a = none -> c = 0) := by
 rcases h.2 with ⟨e0, h0⟩ | ⟨g, cap, cur, e0, _, _, hc, _⟩
 ·cases e0; exact ⟨Nat.le_refl _, fun _ => rfl⟩
 ·cases e0; exact ⟨hc, fun e => by cases e⟩
theorem yU_ {W : World} {b b' n n' s s' : Nat} {e e' : TypeId} {v v' : Value} {xs xs' : List Value} (h : W.ownsRow b e s v n xs) (g : W.ownsRow b' e' s' v' n' xs') (hne : e ≠ e') : v.ownBlock = none ∨ v.ownBlock ≠ v'.ownBlock := by
 rcases h.2 with ⟨e0, h0⟩ | ⟨k, cap, cur, e0, _, hk, _⟩
 ·subst e0; exact .inl rfl
 ·rcases g.2 with ⟨e1, h1⟩ | ⟨k', cap', cur', e1, _, hk', _⟩
  ·subst e0 e1; exact .inr (by simp [Value.ownBlock])
  ·subst e0 e1
   refine .inr (fun q => hne ?_)
   simp [Value.ownBlock] at q
   subst q
   rw [hk] at hk'
   injection hk' with hk'
   injection hk'
theorem QJ_ {W : World} {B : Nat} (y : PrV) (h0 : W.cell? ⟨B, 0, none⟩ = some (.slice y.ka y.K.length y.kc)) (h1 : W.cell? ⟨B, 1, none⟩ = some (.slice y.ra y.R.length y.rc)) (l : Ls .u8 W y.ka y.kc y.K) (r : RdR W y.ra y.R) : zp_ W (some ⟨B, 0, none⟩) [y] := fun k x hx => by
 match k, hx with
 | 0, hx => cases hx; exact ⟨B, 0, rfl, by simpa using h0, by simpa using h1, l, r⟩
 | k + 1, hx => simp at hx
theorem qD_ {W : World} {base n c : Nat} {a : Option Addr} {R : List P1} (h : W.ownsRow base 42 1 (.slice a n c) n (R.map P1.v)) (hn : R.length = n) (ok : ∀ p ∈ R, W.ownsRow base 5 1 p.v p.bs.length (iv .u8 p.bs)) : RdR W a R := by
 obtain ⟨a', c', e, r, _⟩ := QL_ h hn ok
 cases e; exact r
theorem yv_ {W : World} {base n c : Nat} {a : Option Addr} {L : List Int} (h : W.ownsRow base 5 1 (.slice a n c) n (iv .u8 L)) (hn : L.length = n) : Ls .u8 W a c L := by
 obtain ⟨a', c', e, l, _⟩ := yy_ h hn
 cases e; exact l
theorem zd_ {w : World} {base n s : Nat} {e : TypeId} {v : Value} {xs : List Value} (h : w.ownsRow base e s v n xs) : ∃ a c, v = .slice a n c := by
 rcases h.2 with ⟨e0, h0⟩ | ⟨g, cap, cur, e0, _⟩
 ·subst h0; exact ⟨_, _, e0⟩
 ·exact ⟨_, _, e0⟩
section
open Go.Maps
def cellsOf {α : Type} (f : α -> List Value) (xs : List α) : List Value := (xs.map f).flatten
theorem zq_ {α : Type} (f : α -> List Value) (a b : List α) : cellsOf f (a ++ b) = cellsOf f a ++ cellsOf f b := by simp [cellsOf]
theorem zK_ {α : Type} {f : α -> List Value} {sz : Nat} (hf : ∀ x, (f x).length = sz) (a : List α) : (cellsOf f a).length = a.length * sz := by
 induction a with
 | nil => simp [cellsOf]
 | cons x r ih =>
  unfold cellsOf at *
  rw [List.map_cons, List.flatten_cons, List.length_append, ih, List.length_cons, hf, Nat.add_mul]
  omega
theorem cellsOf_one {α : Type} {f : α -> List Value} (hf : ∀ x, ∀ u ∈ f x, u.oneCell' = true) (a : List α) : ∀ u ∈ cellsOf f a, u.oneCell' = true := fun u hu => by
 obtain ⟨l, hl, hu⟩ := List.mem_flatten.1 hu
 obtain ⟨p, _, rfl⟩ := List.mem_map.1 hl
 exact hf p u hu
theorem z4_ {α : Type} {f : α -> List Value} {sz : Nat} (hf : ∀ x, (f x).length = sz) : ∀ (xs : List α) (k i : Nat) (x : α), xs[k]? = some x -> i < sz -> (cellsOf f xs)[k * sz + i]? = (f x)[i]?
 | [], k, i, x, h, _ => by simp at h
 | y :: xs, 0, i, x, h, hi => by
  simp only [List.getElem?_cons_zero, Option.some.injEq] at h
  subst h
  unfold cellsOf
  rw [List.map_cons, List.flatten_cons, List.getElem?_append_left (by rw [hf]; omega)]
  simp
 | y :: xs, k + 1, i, x, h, hi => by
  have ih := z4_ hf xs k i x (by simpa using h) hi
  unfold cellsOf at *
  rw [List.map_cons, List.flatten_cons, List.getElem?_append_right (by rw [hf, Nat.add_mul]; omega)]
  rw [show (k + 1) * sz + i - (f y).length = k * sz + i by rw [hf, Nat.add_mul]; omega]
  exact ih
theorem zt_ {α : Type} {f : α -> List Value} {sz : Nat} (hf : ∀ x, (f x).length = sz) (hs : 0 < sz) {W : World} {base n c : Nat} {e : TypeId} {a : Option Addr} {xs : List α} (h : W.ownsRow base e sz (.slice a n c) n (cellsOf f xs)) (hn : xs.length = n) (k : Nat) (x : α) (hx : xs[k]? = some x) :
  ∃ g, a = some ⟨g, 0, none⟩ /\ base <= g /\ ∀ i, i < sz -> W.cell? ⟨g, k * sz + i, none⟩ = (f x)[i]? := by
 have hk := (List.getElem?_eq_some_iff.1 hx).1
 have h' := h
 rcases h.2 with ⟨e0, h0⟩ | ⟨g, cap, cur, e0, hb, _⟩
 ·omega
 ·cases e0
  refine ⟨g, rfl, hb, fun i hi => ?_⟩
  have hm : k * sz + i < n * sz := by
   have := Nat.mul_le_mul_right sz (show k + 1 <= n by omega)
   rw [Nat.add_mul] at this; omega
  rw [h'.cellAt (k * sz + i) hm]
  exact z4_ hf xs k i x hx hi
structure AE (st e : TypeId) (z : Value) (sz bs : Nat) : Prop where
 u : prog.underlying st = some (.slice e)
 i : (prog.info? e).map (fun i => (i.zero, i.size, i.bytes)) = some (some z, sz, bs)
 c : z.cells.size = sz
 p : 0 < sz
 l : bs <= 1000
theorem y3_ {st e : TypeId} {z : Value} {sz bs : Nat} (E : AE st e z sz bs) (w : World) (ty : TypeId) (base : Nat) (v : Value) (n : Nat) (xs : List Value) (hown : w.ownsRow base e sz v n xs)
  (ad : Addr) (c k : Nat) (news : List Value) (hl : news.length = k * sz) (hnews : ∀ j u, news[j]? = some u -> w.cell? (ad.add j) = some u) (h1 : ∀ u ∈ news, u.oneCell' = true) (hb : n + k <= 2097152) (hbase : base <= w.heap.size) :
  ∃ v' w', (Builtin.append_ #[st, st] ty #[v, .slice (some ad) k c]).run prog w = .ok v' w' /\ w'.ownsRow base e sz v' (n + k) (xs ++ news) /\ w.grownBy w' v.ownBlock /\ (v'.ownBlock = v.ownBlock ∨ v'.ownBlock = some w.heap.size) := by
 obtain ⟨i0, hi, hz0, hz1, hz2⟩ := info_parts E.i
 have hle : (n + k) * bs <= 2097152 * 1000 := Nat.mul_le_mul hb E.l
 obtain ⟨v', w', r1, r2, r3, _, r4⟩ := run_append_own_at (P := prog) w base st ty e i0 z sz bs E.u hi hz0 hz1 hz2 E.c E.p v n xs hown ad k c news hl hnews h1 Xt15 Xt0 hbase
 exact ⟨v', w', r1, r2, r3, r4⟩
theorem zv_ {st e : TypeId} {z : Value} {sz bs : Nat} (E : AE st e z sz bs) {ops : Array Oper} {rest : List Oper} {o : Oper} {a : Act} {w : World} {Q : Exit -> Act -> World -> Prop} (hgd : o.guard = none) (s x : Operand)
  (ho : o.op = .call { callee := .builtin .append, args := #[s, x], argTypes := #[st, st] })
  (base : Nat) (v : Value) (n : Nat) (xs : List Value) (hs : a.eval s = v) (hown : w.ownsRow base e sz v n xs)
  (ad : Addr) (c k : Nat) (news : List Value) (hx : a.eval x = .slice (some ad) k c) (hl : news.length = k * sz) (hnews : ∀ j u, news[j]? = some u -> w.cell? (ad.add j) = some u) (h1 : ∀ u ∈ news, u.oneCell' = true) (hb : n + k <= 2097152) (hbase : base <= w.heap.size)
  (h : ∀ v' w', w'.ownsRow base e sz v' (n + k) (xs ++ news) -> w.grownBy w' v.ownBlock -> (v'.ownBlock = v.ownBlock ∨ v'.ownBlock = some w.heap.size) -> wpList prog ops Q rest (a.put o.dst v') w') :
  wpList prog ops Q (o :: rest) a w :=
 wpList_plain hgd fun Kt hK => by
  obtain ⟨v', w', h1, h2, h3, h4⟩ := y3_ E w o.type base v n xs hown ad c k news hl hnews h1 hb hbase
  unfold Oper.wp execOp
  simp only [ho, resolve, invoke, builtin, Sem.run_bind, Sem.run_pure, Result.andThen_ok, List.map_toArray, List.map_cons, List.map_nil, hs, hx, h1]
  exact hK _ _ (h v' w' h2 h3 h4)
theorem zD_ {st e : TypeId} {z : Value} {sz bs : Nat} (E : AE st e z sz bs) {ops : Array Oper} {o : Oper} {a : Act} {w : World} {Kt : Act -> World -> Prop} {Q : Exit -> Act -> World -> Prop} {Z : Prop} (hgd : o.guard = none) (s x : Operand)
  (ho : o.op = .call { callee := .builtin .append, args := #[s, x], argTypes := #[st, st] })
  (base : Nat) (v : Value) (n : Nat) (xs : List Value) (hs : a.eval s = v) (hown : w.ownsRow base e sz v n xs)
  (ad : Addr) (c k : Nat) (news : List Value) (hx : a.eval x = .slice (some ad) k c) (hl : news.length = k * sz) (hnews : ∀ j u, news[j]? = some u -> w.cell? (ad.add j) = some u) (h1 : ∀ u ∈ news, u.oneCell' = true) (hb : n + k <= 2097152) (hbase : base <= w.heap.size)
  (h : ∀ v' w', w'.ownsRow base e sz v' (n + k) (xs ++ news) -> w.grownBy w' v.ownBlock -> (v'.ownBlock = v.ownBlock ∨ v'.ownBlock = some w.heap.size) -> Kt (a.put o.dst v') w') :
  if Region.wanted o (yielded ops a.tmps) = true then Oper.wp prog o a w Kt Q else Z := by
 have hw : Region.wanted o (yielded ops a.tmps) = true := by simp [Region.wanted, hgd]
 rw [if_pos hw]
 obtain ⟨v', w', h1, h2, h3, h4⟩ := y3_ E w o.type base v n xs hown ad c k news hl hnews h1 hb hbase
 unfold Oper.wp execOp
 simp only [ho, resolve, invoke, builtin, Sem.run_bind, Sem.run_pure, Result.andThen_ok, List.map_toArray, List.map_cons, List.map_nil, hs, hx, h1]
 exact h v' w' h2 h3 h4
theorem zx_ (w : World) (cs : Array Value) (t : TypeId) (news : List Value) (h : cs = news.toArray) : ∀ j u, news[j]? = some u -> (w.alloc (.cells cs t)).cell? ((⟨w.heap.size, 0, none⟩ : Addr).add j) = some u := fun j u hj => by
 rw [zG_, Nat.zero_add]
 have := (zg_.new w cs t).cell j
 rw [this, h]; simpa using hj
theorem ae_map : AE 87 90 (.map none) 1 8 := ⟨underlying87, by kernel_rfl, by decide, by decide, by decide⟩
theorem ae_imap : AE 120 173 (.map none) 1 8 := ⟨underlying120, by kernel_rfl, by decide, by decide, by decide⟩
theorem Qn_ : AE 41 84 (.agg #[.int .i64 0, .slice none 0 0, .slice none 0 0]) 3 56 := ⟨underlying41, by kernel_rfl, by decide, by decide, by decide⟩
theorem Zb_ : AE 59 81 (.agg #[.int .i64 0, .slice none 0 0]) 2 32 := ⟨underlying59, by kernel_rfl, by decide, by decide, by decide⟩
theorem xn_ : AE 69 78 (.agg #[.slice none 0 0, .slice none 0 0]) 2 48 := ⟨underlying69, by kernel_rfl, by decide, by decide, by decide⟩
theorem ae_tab : AE 46 69 (.slice none 0 0) 1 24 := ⟨underlying46, by kernel_rfl, by decide, by decide, by decide⟩
theorem ae_entry : AE 146 149 (.agg #[.slice none 0 0, .slice none 0 0, .slice none 0 0]) 3 72 := ⟨underlying146, by kernel_rfl, by decide, by decide, by decide⟩
theorem ae_op : AE 36 74 (.agg #[.int .i64 0, .int .i64 0, .int .i64 0, .slice none 0 0, .slice none 0 0, .int .i64 0, .slice none 0 0]) 7 104 := ⟨underlying36, by kernel_rfl, by decide, by decide, by decide⟩
end
structure xB_ where
 e : Int
 pa : Option Addr
 pc : Nat
 P : List PrV
def yC_ (x : xB_) : Int × List Pr := (x.e, x.P.map prC)
structure ys_ (x : xB_) : Prop where
 pn : x.P.length <= 1000000
 ps : ∀ p ∈ x.P, Qp_ p
def jL_ (W : World) (a : Option Addr) (L : List xB_) : Prop := ∀ (k : Nat) (x : xB_), L[k]? = some x -> ∃ b off, a = some ⟨b, off, none⟩ /\ W.cell? ⟨b, off + k * 2, none⟩ = some (.int .i64 x.e) /\ W.cell? ⟨b, off + k * 2 + 1, none⟩ = some (.slice x.pa x.P.length x.pc) /\ zp_ W x.pa x.P
theorem jL_.below {W W' : World} {a : Option Addr} {L : List xB_} (h : jL_ W a L) (hb : Below W.heap.size W W') : jL_ W' a L := fun k x hx => by
 exact Xb110
theorem zY_ (a b : Option Addr) (L M : List xB_) (n m ca cb : Nat) (hn : L.length = n) (hm : M.length = m) (hn2 : n <= 1000000) (hm2 : m <= 1000000) (okL : ∀ x ∈ L, ys_ x) (okM : ∀ x ∈ M, ys_ x) (w : World) (hA : jL_ w a L) (hB : jL_ w b M) :
  Calls prog 34 #[.slice a n ca, .slice b m cb] w fun r w' => r = .returned (.bool (decide (L.map yC_ = M.map yC_))) /\ Below w.heap.size w w' := by
 have HR := hid (And.intro hA hB)
 have HN := hid (And.intro hn hm)
 have HOK := hid (And.intro okL okM)
 have hni : (n : Int) <= 1000000 := by omega
 have hmi : (m : Int) <= 1000000 := by omega
 clear hA hB hn hm okL okM
 by_cases hnm : n = m
 ·subst hnm
  have e4 : ((n : Int) != (n : Int)) = false := by simp
  go_enter func34, ntmps34
  go_wp2_with fail
  clear e4
  go_loopw [5] (fun i wr => ∃ k : Nat, k <= n /\ i = .int .i64 (k : Int) /\ Hid ((L.take k).map yC_ = (M.take k).map yC_) /\ Hid (Below w.heap.size w wr)) (fun i _ => n - (intOf i).toNat)
  case atStart => exact ⟨0, by omega, rfl, hid rfl, hid (Below.refl _ _)⟩
  case round =>
   obtain ⟨k, hk, rfl, HE, HBW⟩ := hrel
   by_cases hlt : k < n
   ·have d1 : (k : Int) < (n : Int) := by omega
    obtain ⟨x, hx⟩ : ∃ x, L[k]? = some x := ⟨_, List.getElem?_eq_getElem Xt73⟩
    obtain ⟨y, hy⟩ : ∃ y, M[k]? = some y := ⟨_, List.getElem?_eq_getElem Xt74⟩
    obtain ⟨b1, o1, ea, c0, c1, rx⟩ := (HR.out.1.below HBW.out) k x hx
    subst ea
    obtain ⟨b2, o2, eb, e0, e1, ry⟩ := (HR.out.2.below HBW.out) k y hy
    subst eb
    have okx := HOK.out.1 x (List.mem_of_getElem? hx)
    have oky := HOK.out.2 y (List.mem_of_getElem? hy)
    have HXY := hid (And.intro hx hy)
    have HRS := hid (fun W (b : Below wr.heap.size wr W) => yE_ x.pa y.pa x.P y.P x.P.length y.P.length x.pc y.pc rfl rfl okx.pn oky.pn okx.ps oky.ps W (rx.below b) (ry.below b))
    obtain ⟨q, hq⟩ := gtx (decide (x.P.map prC = y.P.map prC))
    rw [hq] at HRS
    have HQ := hid hq
    have HPC := hid (show yC_ x = (x.e, x.P.map prC) /\ yC_ y = (y.e, y.P.map prC) from ⟨rfl, rfl⟩)
    obtain ⟨XK, hXK⟩ := gtx (x.e)
    obtain ⟨xrn, hxrn⟩ := gtx (x.P.length)
    obtain ⟨xra, hxra⟩ := gtx (x.pa)
    obtain ⟨xrc, hxrc⟩ := gtx (x.pc)
    obtain ⟨YK, hYK⟩ := gtx (y.e)
    obtain ⟨yrn, hyrn⟩ := gtx (y.P.length)
    obtain ⟨yra, hyra⟩ := gtx (y.pa)
    obtain ⟨yrc, hyrc⟩ := gtx (y.pc)
    rw [hXK] at c0
    rw [hxra, hxrn, hxrc] at c1
    rw [hYK] at e0
    rw [hyra, hyrn, hyrc] at e1
    rw [hxra, hyra, hxrn, hyrn, hxrc, hyrc] at HRS
    rw [hXK, hYK] at HPC
    have HX5 := hid (fun W (b : Below wr.heap.size wr W) => (⟨tcb b c0, tcb b c1⟩ : W.cell? ⟨b1, o1 + k * 2, none⟩ = some (.int .i64 XK) /\ W.cell? ⟨b1, o1 + k * 2 + 1, none⟩ = some (.slice xra xrn xrc)))
    have HY5 := hid (fun W (b : Below wr.heap.size wr W) => (⟨tcb b e0, tcb b e1⟩ : W.cell? ⟨b2, o2 + k * 2, none⟩ = some (.int .i64 YK) /\ W.cell? ⟨b2, o2 + k * 2 + 1, none⟩ = some (.slice yra yrn yrc)))
    clear c0 c1 e0 e1 rx ry okx oky hx hy hq hXK hxrn hxra hxrc hYK hyrn hyra hyrc
    by_cases hkk : XK = YK
    ·have HKK := hid hkk
     have hne : (XK != YK) = false := by rw [hkk]; simp
     have hnp : XK = YK := hkk
     clear hkk
     go_upto_region 6 with (fail)
     rename_i KK hKK
     refine wmo ?_
     refine rgw wr (Below.refl _ _).drew fun hH => ?_
     refine tkq4 0 1 2 3 ?_
     refine tkr 4 rfl Xf17 ?_
     refine tkq4 5 6 7 8 ?_
     refine tkr 9 rfl Xf18 ?_
     refine tkp 10 (.bool false) rfl (.inl ⟨by rfl, ?_⟩) ?_
     ·exact Xb23
     refine tkp 11 (.bool false) rfl (.inl ⟨by rfl, ?_⟩) ?_
     ·exact Xb23
     refine tkq4 12 13 14 15 ?_
     refine tkr 16 rfl Xf17 ?_
     refine tkq4 17 18 19 20 ?_
     refine tkr 21 rfl Xf18 ?_
     refine tk1 22 rfl fun K hK => ?_
     go_simp
     refine (HRS.out _ hH).mono ?_; rintro e9 w9 ⟨rfl, hb9⟩
     go_wp2_with fail
     refine hK.out _ _ (za_ hH hb9) fun hH => ?_
     clear hb9
     refine stP ?_
     refine tkq2 23 24 ?_
     refine adn ?_
     skip
     refine hKK _ _ ?_
     have HB9 := hid (za_ HBW.out hH)
     clear hH hne hnp
     cases q
     ·have HV := hid (show decide (L.map yC_ = M.map yC_) = false by
       rw [decide_eq_false_iff_not]
       refine xg_ HXY.out.1 HXY.out.2 ?_
       rw [HPC.out.1, HPC.out.2]
       intro e9
       have := HQ.out
       rw [decide_eq_false_iff_not] at this
       exact this (Prod.mk.inj e9).2)
      exact Xb47
     ·have HEN := hid (show (L.take (k + 1)).map yC_ = (M.take (k + 1)).map yC_ by
       rw [List.take_add_one, List.take_add_one, HXY.out.1, HXY.out.2, List.map_append, List.map_append, HE.out]
       have hr := HQ.out
       rw [decide_eq_true_eq] at hr
       simp only [Option.toList_some, List.map_cons, List.map_nil, HPC.out.1, HPC.out.2, HKK.out, hr])
      exact Xb51
    ·have HV := hid (show decide (L.map yC_ = M.map yC_) = false by
      rw [decide_eq_false_iff_not]
      refine xg_ HXY.out.1 HXY.out.2 ?_
      rw [HPC.out.1, HPC.out.2]
      exact fun e9 => hkk (Prod.mk.inj e9).1)
     have hne : (XK != YK) = true := bne_iff_ne.2 hkk
     have hnp : ¬ XK = YK := hkk
     clear hkk
     go_upto_region 6 with (fail)
     rename_i KK hKK
     refine wmo ?_
     refine rgw wr (Below.refl _ _).drew fun hH => ?_
     refine tkq4 0 1 2 3 ?_
     refine tkr 4 rfl Xf17 ?_
     refine tkq4 5 6 7 8 ?_
     refine tkr 9 rfl Xf18 ?_
     refine tkp 10 (.bool true) rfl (.inl ⟨by rfl, ?_⟩) ?_
     ·exact Xb23
     refine tkp 11 (.bool true) rfl (.inl ⟨by rfl, ?_⟩) ?_
     ·exact Xb23
     refine tkn 12 ?_
     refine tkn 13 ?_
     refine tkn 14 ?_
     refine tkn 15 ?_
     refine tkn 16 ?_
     refine tkn 17 ?_
     refine tkn 18 ?_
     refine tkn 19 ?_
     refine tkn 20 ?_
     refine tkn 21 ?_
     refine tkn 22 ?_
     refine tkn 23 ?_
     refine tkp 24 (.bool true) rfl (.inl ⟨by rfl, ?_⟩) ?_
     ·intro W hSw; go_simp; try (first | rfl | (simp; done))
     refine adn ?_
     skip
     refine hKK _ _ ?_
     have HB9 := hid (za_ HBW.out hH)
     clear hH hne hnp
     exact Xb47
   ·have d1 : ¬ (k : Int) < (n : Int) := by omega
    have HV := hid (show decide (L.map yC_ = M.map yC_) = true by
     have h1 := HE.out
     rw [List.take_of_length_le (by rw [HN.out.1]; omega), List.take_of_length_le (by rw [HN.out.2]; omega)] at h1
     rw [decide_eq_true_eq]; exact h1)
    exact Xb84
 ·have e4 : ((n : Int) != (m : Int)) = true := by rw [bne_iff_ne]; omega
  have HV := hid (show decide (L.map yC_ = M.map yC_) = false by
   rw [decide_eq_false_iff_not]
   intro e9
   have := congrArg List.length e9
   rw [List.length_map, List.length_map, HN.out.1, HN.out.2] at this
   exact hnm this)
  clear hnm
  go_enter func34, ntmps34
  exact Xb76
section
open Go.Maps
structure WtV where
 t : Nat
 ka : Option Addr
 kc : Nat
 K : List Int
 r : RV
def wcl (y : WtV) : List Value := [.int .i64 y.t, .slice y.ka y.K.length y.kc, y.r.v]
theorem zP_ (y : WtV) : (wcl y).length = 3 := rfl
theorem wcl_one (y : WtV) : ∀ u ∈ wcl y, u.oneCell' = true := fun u hu => by
 simp only [wcl, RV.v, List.mem_cons, List.not_mem_nil, or_false] at hu
 rcases hu with rfl | rfl | rfl <;> rfl
def rcl (y : xB_) : List Value := [.int .i64 y.e, .slice y.pa y.P.length y.pc]
theorem rcl_len (y : xB_) : (rcl y).length = 2 := rfl
theorem rcl_one (y : xB_) : ∀ u ∈ rcl y, u.oneCell' = true := fun u hu => by
 simp only [rcl, List.mem_cons, List.not_mem_nil, or_false] at hu
 rcases hu with rfl | rfl <;> rfl
def iV (i : Nat) : Value := .int .i64 (i : Int)
def WrB (W : World) (t : TypeId) (a : Option Addr) (n : Nat) : Prop := ∀ b off, a = some ⟨b, off, none⟩ -> 0 < n -> ∃ cs lo hi, W.heap[b]? = some (.cells cs t (lo, hi)) /\ ∀ k, k < n -> ¬ (lo <= off + k /\ off + k < hi)
theorem WrB.of {W : World} {t : TypeId} {a : Option Addr} {n c base : Nat} {size : Nat} {xs : List Value} (h : W.ownsRow base t size (.slice a n c) n xs) : WrB W t a n := fun b off e hn => by
 subst e
 rcases h.2 with ⟨e0, h0⟩ | ⟨g, cap, cur, e0, hb, hg, _⟩
 ·injection e0 with e0; cases e0
 ·injection e0 with e0
  injection e0 with e0
  injection e0 with e0
  subst e0
  exact ⟨cur, 0, 0, hg, fun k _ h => by omega⟩
theorem WrB.box {W : World} {b off : Nat} {cs : Array Value} {t : TypeId} (h : zg_ W b cs t) (n : Nat) : WrB W t (some ⟨b, off, none⟩) n := fun b' off' e _ => by
 cases e
 exact ⟨cs, 0, 0, h, fun k _ h => by omega⟩
theorem WrB.below {W W' : World} {t : TypeId} {a : Option Addr} {n : Nat} (h : WrB W t a n) (b : Below W.heap.size W W') : WrB W' t a n := fun x off e hn => by
 obtain ⟨cs, lo, hi, hc, r⟩ := h x off e hn
 exact ⟨cs, lo, hi, (b.block x (Array.getElem?_eq_some_iff.1 hc).1).trans hc, r⟩
def PrW (W : World) (p : PrV) : Prop := WrB W 5 p.ka p.K.length /\ WrB W 42 p.ra p.R.length
theorem PrW.below {W W' : World} {p : PrV} (h : PrW W p) (b : Below W.heap.size W W') : PrW W' p := ⟨h.1.below b, h.2.below b⟩
def yg_ (W : World) (a : Option Addr) (L : List PrV) : Prop := zp_ W a L /\ WrB W 78 a L.length /\ ∀ p ∈ L, PrW W p
theorem yg_.below {W W' : World} {a : Option Addr} {L : List PrV} (h : yg_ W a L) (b : Below W.heap.size W W') : yg_ W' a L := ⟨h.1.below b, h.2.1.below b, fun p hp => (h.2.2 p hp).below b⟩
theorem yg_.nil (W : World) (a : Option Addr) : yg_ W a [] := ⟨(fun k x h => by simp at h), (fun b off e h => by simp at h), (fun p hp => by cases hp)⟩
def Rb (S : Nat -> Prop) (base k : Nat) : Prop := S k ∨ k < base
def Ab (S : Nat -> Prop) (base k : Nat) : Prop := S k /\ base <= k
structure Tl where
 px : Nat
 bx : Nat
 bm : Nat
 bw : Nat
 wc : Nat
 wm : List (Nat × List (List Int × Nat))
 wv : Value
 rv : Value
 ws : List WtV
 rs : List xB_
def Tl.cs (m : Md) (x : Tl) : Array Value := #[.pointer (some ⟨m.p, 0, none⟩), .slice (some ⟨x.bw, 0, none⟩) x.wm.length x.wc, x.wv, x.rv, .func (.func 107) #[] #[.pointer (some ⟨x.bx, 0, none⟩), .pointer (some ⟨x.bm, 0, none⟩)]]
structure TlS (m : Md) (x : Tl) (W : World) : Prop where
 vx : zg_ W x.bx #[.pointer (some ⟨x.px, 0, none⟩)] 117
 vm : zg_ W x.bm #[.pointer (some ⟨m.p, 0, none⟩)] 28
 tab : ∀ k y, x.wm[k]? = some y -> W.cell? ⟨x.bw, k, none⟩ = some (.map (some y.1))
structure TlR (S : Nat -> Prop) (base : Nat) (W : World) (m : Md) (x : Tl) : Prop where
 md : MdR S W m
 bd : ∀ k, S k -> k < W.heap.size
 box : zg_ W x.px (x.cs m) 123
 st : zs_ S W (TlS m x)
 wmaps : ∀ y ∈ x.wm, Mp W y.1 iV y.2
 wlen : x.wm.length = m.tabs.length
 own : W.ownsRow base 84 3 x.wv x.ws.length (cellsOf wcl x.ws)
 wst : ∀ y ∈ x.ws, zs_ S W (fun W' => Ls .u8 W' y.ka y.kc y.K /\ RdR W' y.r.ra y.r.R)
 wok : ∀ y ∈ x.ws, y.t < m.tabs.length /\ zH_ y.K /\ (y.r.R ≠ [] -> rOk y.r.P)
 rown : W.ownsRow base 81 2 x.rv x.rs.length (cellsOf rcl x.rs)
 rst : ∀ y ∈ x.rs, zs_ (Rb S base) W (fun W' => yg_ W' y.pa y.P)
 coh : ∀ (t : Nat) (y : Nat × List (List Int × Nat)), x.wm[t]? = some y -> ∀ (K : List Int) (i : Nat), zU_ y.2 K = some i ↔ ∃ w : WtV, x.ws[i]? = some w /\ w.t = t /\ w.K = K
 hp : S x.px
 hm : ∀ y ∈ x.wm, S y.1
 hw : ∀ g, x.wv.ownBlock = some g -> S g
 hr : ∀ g, x.rv.ownBlock = some g -> S g
 nod : (x.wm.map Prod.fst).Nodup
 old : ∀ y ∈ m.tabs, y.1 < base
 lo : base <= x.px
 low : ∀ y ∈ x.wm, base <= y.1
 wl : ∀ y ∈ x.wm, y.2.length <= x.ws.length
 few : x.ws.length <= 1000
 rfew : x.rs.length <= 1000
def getX (m : Md) (x : Tl) (t : Nat) (K : List Int) : Option RV :=
 match x.ws.find? fun w : WtV => decide (w.t = t /\ w.K = K) with
 | some w => if w.r.R = [] then none else some w.r
 | none => match m.tabs[t]? with
  | some y => zU_ y.2 K
  | none => none
theorem TlR.rb {S : Nat -> Prop} {base : Nat} {W : World} {m : Md} {x : Tl} (h : TlR S base W m x) (hb : base <= W.heap.size) : ∀ k, Rb S base k -> k < W.heap.size := fun k hk => hk.elim (h.bd k) fun h => Nat.lt_of_lt_of_le h hb
theorem TlR.find_some {S : Nat -> Prop} {base : Nat} {W : World} {m : Md} {x : Tl} (h : TlR S base W m x) {t : Nat} {y : Nat × List (List Int × Nat)} (hy : x.wm[t]? = some y) {K : List Int} {i : Nat} (hi : zU_ y.2 K = some i) :
  ∃ w, x.ws[i]? = some w /\ x.ws.find? (fun w : WtV => decide (w.t = t /\ w.K = K)) = some w /\ w.t = t /\ w.K = K := by
 obtain ⟨w, h1, h2, h3⟩ := (h.coh t y hy K i).1 hi
 refine ⟨w, h1, ?_, h2, h3⟩
 cases hf : x.ws.find? (fun w : WtV => decide (w.t = t /\ w.K = K)) with
 | none =>
  rw [List.find?_eq_none] at hf
  have := hf w (List.mem_of_getElem? h1)
  simp [h2, h3] at this
 | some w' =>
  have hp := List.find?_some hf
  simp only [decide_eq_true_eq] at hp
  obtain ⟨j, hj⟩ := List.mem_iff_getElem?.1 (List.mem_of_find?_eq_some hf)
  have := (h.coh t y hy K j).2 ⟨w', hj, hp.1, hp.2⟩
  rw [hi] at this
  cases this
  rw [h1] at hj
  exact hj.symm
theorem TlR.find_none {S : Nat -> Prop} {base : Nat} {W : World} {m : Md} {x : Tl} (h : TlR S base W m x) {t : Nat} {y : Nat × List (List Int × Nat)} (hy : x.wm[t]? = some y) {K : List Int} (hi : zU_ y.2 K = none) :
  x.ws.find? (fun w : WtV => decide (w.t = t /\ w.K = K)) = none := by
 rw [List.find?_eq_none]
 intro w hw
 simp only [decide_eq_true_eq]
 intro hp
 obtain ⟨j, hj⟩ := List.mem_iff_getElem?.1 hw
 have := (h.coh t y hy K j).2 ⟨w, hj, hp.1, hp.2⟩
 rw [hi] at this
 cases this
theorem TlR.c {S : Nat -> Prop} {base : Nat} {W : World} {m : Md} {x : Tl} (h : TlR S base W m x) : W.cell? ⟨x.px, 0, none⟩ = some (.pointer (some ⟨m.p, 0, none⟩)) /\ W.cell? ⟨x.px, 1, none⟩ = some (.slice (some ⟨x.bw, 0, none⟩) x.wm.length x.wc) /\ W.cell? ⟨x.px, 2, none⟩ = some x.wv /\ W.cell? ⟨x.px, 3, none⟩ = some x.rv /\ W.cell? ⟨x.px, 4, none⟩ = some (.func (.func 107) #[] #[.pointer (some ⟨x.bx, 0, none⟩), .pointer (some ⟨x.bm, 0, none⟩)]) := by
 refine ⟨?_, ?_, ?_, ?_, ?_⟩ <;> (rw [h.box.cell]; rfl)
theorem zero3 (w : World) : (zeroValue 3).run prog w = .ok (.int .i64 0) w := by kernel_rfl
theorem xO_ {K : List Int} (h : K.length <= 1000000) : K.length <= maxLen := by unfold maxLen; omega
def GxR (o : Option RV) (w : World) (r : Ending) (w' : World) : Prop := (∃ v, r = .returned (.tuple #[v, .bool o.isSome]) /\ ∀ y, o = some y -> v = y.v) /\ w = w'
theorem qB_ {S : Nat -> Prop} {base : Nat} {w : World} {m : Md} {x : Tl} (h : TlR S base w m x) (t : Nat) (ht : t < m.tabs.length) (K : List Int) (bK : Byt K) (hK : K.length <= 1000000) :
  Calls prog 107 #[.int .i64 (t : Int), .string (strOfNums K), .pointer (some ⟨x.bx, 0, none⟩), .pointer (some ⟨x.bm, 0, none⟩)] w (GxR (getX m x t K) w) := by
 obtain ⟨y, hy⟩ : ∃ y, x.wm[t]? = some y := ⟨_, List.getElem?_eq_getElem Xt84⟩
 obtain ⟨z, hz⟩ : ∃ z, m.tabs[t]? = some z := ⟨_, List.getElem?_eq_getElem ht⟩
 obtain ⟨c0, c1, c2, c3, c4⟩ := h.c
 have v0 := h.st.now.vx.cell 0
 have v1 := h.st.now.vm.cell 0
 have d0 := h.md.c
 have e0 := h.st.now.tab t y hy
 have e1 := h.md.st.now.tab t z hz
 have hfew := h.md.few
 have hwl := h.wlen
 have ht0 : ¬ (t : Int) < 0 := by omega
 have ht1 : (t : Int) < (m.tabs.length : Int) := by omega
 have ht2 : (t : Int) < (x.wm.length : Int) := by omega
 have hl1 : (m.tabs.length : Int) <= 1000000 := by omega
 have hl2 : (x.wm.length : Int) <= 1000000 := by omega
 have hlk := (h.wmaps y (List.mem_of_getElem? hy)).look (t := 173) (e := 3) underlying173 (zero3 w) bK (xO_ hK)
 have hlm := (h.md.maps z (List.mem_of_getElem? hz)).look (t := 90) (e := 50) underlying90 (zero50 w) bK (xO_ hK)
 cases hi : zU_ y.2 K with
 | none =>
  have hf := h.find_none hy hi
  have hX : getX m x t K = zU_ z.2 K := by unfold getX; rw [hf, hz]
  rw [hX]
  obtain ⟨o, ho⟩ := gtx (zU_ z.2 K)
  rw [ho] at hlm ⊢
  rw [hi] at hlk
  obtain ⟨u, hu⟩ := gtx ((o.map RV.v).getD (.slice none 0 0))
  have HU := hid (fun y (e : o = some y) => (by rw [← hu, e]; rfl : u = y.v))
  rw [hu] at hlm
  obtain ⟨q, hq⟩ := gtx (o.isSome)
  rw [hq] at hlm
  have HQ := hid hq
  simp only [Option.map_none, Option.getD_none, Option.isSome_none] at hlk
  clear hi hf hX ho hu hq h hz hy hwl ht bK hK hfew
  go_enter func107, ntmps107
  go_wp2_with fail
  go_ret2
  exact ⟨⟨_, by rw [HQ.out]; rfl, HU.out⟩, rfl⟩
 | some i =>
  obtain ⟨wt, h1, hf, _, _⟩ := h.find_some hy hi
  have hX : getX m x t K = if wt.r.R = [] then none else some wt.r := by unfold getX; rw [hf]
  rw [hX]
  rw [hi] at hlk
  simp only [Option.map_some, Option.getD_some, Option.isSome_some, iV] at hlk
  obtain ⟨a4, c5, hv⟩ := zd_ h.own
  have ho := h.own
  rw [hv] at ho c2
  obtain ⟨g, rfl, hg, hcl⟩ := zt_ zP_ Xt0 ho rfl i wt h1
  have f2 : w.cell? ⟨g, i * 3 + 2, none⟩ = some (.slice wt.r.ra wt.r.R.length wt.r.rc) := hcl 2 Xt0
  have hi1 := (List.getElem?_eq_some_iff.1 h1).1
  have hwf := h.few
  have hi2 : (i : Int) < (x.ws.length : Int) := by omega
  have hi3 : ¬ (i : Int) < 0 := by omega
  have hi4 : (x.ws.length : Int) <= 1000000 := by omega
  clear hi hf hX h hz hy hwl ht bK hK hfew h1 ho hcl hg hv hi1 hwf hlm
  by_cases hR : wt.r.R = []
  ·rw [if_pos hR]
   have hn : wt.r.R.length = 0 := by rw [hR]; rfl
   rw [hn] at f2
   clear hR hn
   go_enter func107, ntmps107
   go_wp2_with fail
   go_ret2
   exact ⟨⟨_, rfl, fun y e => by cases e⟩, rfl⟩
  ·rw [if_neg hR]
   have hn : (0 : Int) < (wt.r.R.length : Int) := by have := List.length_pos_iff.2 hR; omega
   have HN := hid (show decide (0 < wt.r.R.length) = true by simp; exact List.length_pos_iff.2 hR)
   have HV := hid (show (.slice wt.r.ra wt.r.R.length wt.r.rc) = wt.r.v from rfl)
   clear hR
   go_enter func107, ntmps107
   go_wp2_with fail
   go_ret2
   refine ⟨⟨.slice wt.r.ra wt.r.R.length wt.r.rc, ?_, fun y e => by cases e; exact HV.out⟩, rfl⟩
   show Ending.returned (.tuple #[_, .bool (decide (0 < wt.r.R.length))]) = _
   rw [HN.out]
   rfl
theorem bl1 (X : World) (o : Obj) : Below X.heap.size X (X.alloc o) := (Below.refl _ _).alloc (Nat.le_refl _) o
theorem Mp.store {α : Type} {val : α -> Value} {W : World} {b t e : Nat} {L : List (List Int × α)} (h : Mp W b val L) (ht : prog.underlying t = some (.map 9 e)) {K : List Int} (hK : Byt K) (hn : K.length <= 1000000) (hl : L.length <= 1000000) (v : α) :
  ∃ w', (Instr.mapUpdate t (.map (some b)) (.string (strOfNums K)) (val v)).run prog W = .ok () w' /\ Mp w' b val (xY_ L K (some v)) /\ W.grownBy w' (some b) := by
 obtain ⟨w', hrun, hm, ht⟩ := h.own.store law9 ht Xt15 (keyK (xO_ hn)) (show RF (val v) = some (.held (val v), []) from rfl)
 exact ⟨w', hrun, h.put hK v hm, ht.grown⟩
theorem q8_ {α : Type} {f : α -> List Value} {sz : Nat} (hf : ∀ x, (f x).length = sz) (hs : 0 < sz) : ∀ (xs : List α) (k j : Nat) (x x' : α) (u : Value), xs[k]? = some x -> j < sz -> f x' = (f x).set j u -> (cellsOf f xs).set (k * sz + j) u = cellsOf f (xs.set k x')
 | [], k, j, x, x', u, h, _, _ => by simp at h
 | y :: xs, 0, j, x, x', u, h, hj, he => by
  simp only [List.getElem?_cons_zero, Option.some.injEq] at h
  subst h
  unfold cellsOf
  rw [List.map_cons, List.flatten_cons, List.set_cons_zero, List.map_cons, List.flatten_cons, he, Nat.zero_mul, Nat.zero_add, List.set_append_left _ _ (by rw [hf]; exact hj)]
 | y :: xs, k + 1, j, x, x', u, h, hj, he => by
  have ih := q8_ hf hs xs k j x x' u (by simpa using h) hj he
  unfold cellsOf at *
  rw [List.map_cons, List.flatten_cons, List.set_cons_succ, List.map_cons, List.flatten_cons, List.set_append_right _ _ (by rw [hf, Nat.add_mul]; omega)]
  rw [show (k + 1) * sz + j - (f y).length = k * sz + j by rw [hf, Nat.add_mul]; omega, ih]
theorem zb_ {W : World} {base n size : Nat} {e : TypeId} {v : Value} {xs : List Value} (h : W.ownsRow base e size v n xs) {g : Nat} (hg : v.ownBlock = some g) : base <= g /\ g < W.heap.size /\ ∃ cur, zg_ W g cur e := by
 rcases h.2 with ⟨e0, h0⟩ | ⟨g', cap, cur, e0, hb, hh, _⟩
 ·subst e0; cases hg
 ·subst e0
  simp [Value.ownBlock] at hg
  subst hg
  exact ⟨hb, (Array.getElem?_eq_some_iff.1 hh).1, cur, hh⟩
theorem zn_ {S : Nat -> Prop} {W W' : World} {base n size : Nat} {e : TypeId} {v : Value} {xs : List Value} (h : W.ownsRow base e size v n xs) (o : Off S W W') (hs : ∀ g, v.ownBlock = some g -> ¬ S g) : W'.ownsRow base e size v n xs :=
 ⟨h.1, h.2.imp id fun ⟨g, cap, cur, e0, hb, hg, r⟩ => ⟨g, cap, cur, e0, hb, (o.block g (Array.getElem?_eq_some_iff.1 hg).1 (hs g (by subst e0; rfl))).trans hg, r⟩⟩
theorem Mp.obj {α : Type} {val : α -> Value} {W : World} {b : Nat} {L : List (List Int × α)} (h : Mp W b val L) : ∃ o : Obj, W.heap[b]? = some o /\ o.isCells = false := by
 obtain ⟨es, c, hb, _⟩ := h.own
 exact ⟨_, hb, rfl⟩
theorem Mp.ne_box {α : Type} {val : α -> Value} {W : World} {b B : Nat} {L : List (List Int × α)} (h : Mp W b val L) {cs : Array Value} {t : TypeId} (hb : zg_ W B cs t) : b ≠ B := fun e => by
 obtain ⟨o, h1, h2⟩ := h.obj
 subst e
 rw [show W.heap[b]? = _ from hb] at h1
 cases h1; cases h2
theorem zo_ {W : World} {b B : Nat} {cs cs' : Array Value} {t t' : TypeId} (h : zg_ W b cs t) (h' : zg_ W B cs' t') (ht : t ≠ t') : b ≠ B := fun e => by
 subst e
 have := (show W.heap[b]? = _ from h).symm.trans h'
 injection this with this
 injection this with _ this
 exact ht this
theorem j1_ {S : Nat -> Prop} {W : World} {base n c : Nat} {a : Option Addr} {L : List Int} (h : W.ownsRow base 5 1 (.slice a n c) n (iv .u8 L)) (hn : L.length = n) (hs : ∀ k, S k -> k < base) : zs_ S W fun W' => Ls .u8 W' a c L := fun W' o =>
 yv_ (zm_ h o hs) hn
theorem cpR_stayW {S : Nat -> Prop} {W : World} {base n : Nat} {R : List P1} {v : Value} (h : CpR base R n v W) (hn : R.length = n) (hs : ∀ k, S k -> k < base) :
  ∃ a c R', v = .slice a n c /\ R'.length = n /\ R'.map P1.bs = R.map P1.bs /\ zs_ S W fun W' => RdR W' a R' /\ WrB W' 42 a n := by
 obtain ⟨R', h1, h2, h3⟩ := h.ex
 rw [List.take_of_length_le Xt0] at h1
 have hl : R'.length = n := by have := congrArg List.length h1; simpa [hn] using this
 obtain ⟨a, c, rfl⟩ := zd_ h2
 exact ⟨a, c, R', rfl, hl, h1, fun W' o => ⟨qD_ (zm_ h2 o hs) hl fun p hp => zm_ (h3 p hp) o hs, WrB.of (zm_ h2 o hs)⟩⟩
theorem xz_ {S : Nat -> Prop} {W : World} {base n : Nat} {R : List P1} {v : Value} (h : CpR base R n v W) (hn : R.length = n) (hs : ∀ k, S k -> k < base) :
  ∃ a c R', v = .slice a n c /\ R'.length = n /\ R'.map P1.bs = R.map P1.bs /\ zs_ S W fun W' => RdR W' a R' := by
 obtain ⟨R', h1, h2, h3⟩ := h.ex
 rw [List.take_of_length_le Xt0] at h1
 have hl : R'.length = n := by have := congrArg List.length h1; simpa [hn] using this
 obtain ⟨a, c, rfl⟩ := zd_ h2
 exact ⟨a, c, R', rfl, hl, h1, fun W' o => qD_ (zm_ h2 o hs) hl fun p hp => zm_ (h3 p hp) o hs⟩
def Mut (x : Tl) (k : Nat) : Prop := k = x.px ∨ (∃ y ∈ x.wm, k = y.1) ∨ x.wv.ownBlock = some k
theorem TlR.mut {S : Nat -> Prop} {base : Nat} {W : World} {m : Md} {x : Tl} (h : TlR S base W m x) : ∀ k, Mut x k -> S k /\ base <= k := fun k hk => by
 rcases hk with rfl | ⟨y, hy, rfl⟩ | hk
 ·exact ⟨h.hp, h.lo⟩
 ·exact ⟨h.hm y hy, h.low y hy⟩
 ·exact ⟨h.hw k hk, (zb_ h.own hk).1⟩
structure TSt (S S' : Nat -> Prop) (base : Nat) (w : World) (m : Md) (x : Tl) (w' : World) (x' : Tl) : Prop where
 tl : TlR S' base w' m x'
 su : ∀ k, S k -> S' k
 sd : ∀ k, S' k -> S k ∨ w.heap.size <= k
 off : Off (Mut x) w w'
 mu : ∀ k, Mut x' k -> Mut x k ∨ w.heap.size <= k
 px : x'.px = x.px
 bx : x'.bx = x.bx
 bm : x'.bm = x.bm
 rv : x'.rv = x.rv
 rs : x'.rs = x.rs
theorem TlR.next {S T : Nat -> Prop} {base : Nat} {w w' : World} {m : Md} {x : Tl} (h : TlR S base w m x) (o : Off T w w') (hT : ∀ k, T k -> S k /\ base <= k) (x' : Tl) (e1 : x'.px = x.px) (e2 : x'.bx = x.bx) (e3 : x'.bm = x.bm) (e4 : x'.bw = x.bw) (e5 : x'.wm.map Prod.fst = x.wm.map Prod.fst)
  (hbox : zg_ w' x.px (x'.cs m) 123) (hmaps : ∀ y ∈ x'.wm, Mp w' y.1 iV y.2) (how : w'.ownsRow base 84 3 x'.wv x'.ws.length (cellsOf wcl x'.ws)) (hro : w'.ownsRow base 81 2 x'.rv x'.rs.length (cellsOf rcl x'.rs))
  (S' : Nat -> Prop) (hS : ∀ k, S k -> S' k) (hS' : ∀ k, S' k -> S k ∨ w.heap.size <= k) (hb : ∀ k, S' k -> k < w'.heap.size) (hgw : ∀ g, x'.wv.ownBlock = some g -> S' g) (hgr : ∀ g, x'.rv.ownBlock = some g -> S' g)
  (hwst : ∀ y ∈ x'.ws, zs_ S' w' (fun W' => Ls .u8 W' y.ka y.kc y.K /\ RdR W' y.r.ra y.r.R)) (hwok : ∀ y ∈ x'.ws, y.t < m.tabs.length /\ zH_ y.K /\ (y.r.R ≠ [] -> rOk y.r.P)) (hrst : ∀ y ∈ x'.rs, zs_ (Rb S' base) w' (fun W' => yg_ W' y.pa y.P))
  (hcoh : ∀ (t : Nat) (y : Nat × List (List Int × Nat)), x'.wm[t]? = some y -> ∀ (K : List Int) (i : Nat), zU_ y.2 K = some i ↔ ∃ w : WtV, x'.ws[i]? = some w /\ w.t = t /\ w.K = K) (hwl : ∀ y ∈ x'.wm, y.2.length <= x'.ws.length) (hf : x'.ws.length <= 1000) (hrf : x'.rs.length <= 1000) : TlR S' base w' m x' := by
 have hel : x'.wm.length = x.wm.length := by have := congrArg List.length e5; simpa using this
 have hmem : ∀ y ∈ x'.wm, ∃ z ∈ x.wm, z.1 = y.1 := fun y hy => by
  have : y.1 ∈ x.wm.map Prod.fst := by rw [← e5]; exact List.mem_map.2 ⟨y, hy, rfl⟩
  obtain ⟨z, hz, e⟩ := List.mem_map.1 this
  exact ⟨z, hz, e⟩
 refine ⟨h.md.off o (fun k hk => (hT k hk).1) (fun y hy hk => ?_) (fun k hk => (hS' k hk)) fun y hy => hS _ (h.md.hS y hy), hb, by rw [e1]; exact hbox, ?_, hmaps, hel.trans h.wlen, how, hwst, hwok, hro, hrst, hcoh, by rw [e1]; exact hS _ h.hp, ?_, hgw, hgr, by rw [e5]; exact h.nod, h.old, by rw [e1]; exact h.lo, ?_, hwl, hf, hrf⟩
 ·have := h.old y hy
  have := (hT _ hk).2
  omega
 ·refine ((h.st.step (o.mono fun k hk => (hT k hk).1) hS').mono fun W hW => ⟨by rw [e1, e2]; exact hW.vx, by rw [e3]; exact hW.vm, fun k y hy => ?_⟩)
  have hk : k < x.wm.length := by rw [← hel]; exact (List.getElem?_eq_some_iff.1 hy).1
  have := hW.tab k _ (List.getElem?_eq_getElem hk)
  rw [e4, this]
  have h2 : (x'.wm.map Prod.fst)[k]? = (x.wm.map Prod.fst)[k]? := by rw [e5]
  rw [List.getElem?_map, List.getElem?_map, hy, List.getElem?_eq_getElem hk] at h2
  simp at h2
  rw [h2]
 ·intro y hy
  obtain ⟨z, hz, e⟩ := hmem y hy
  rw [← e]; exact hS _ (h.hm z hz)
 ·intro y hy
  obtain ⟨z, hz, e⟩ := hmem y hy
  rw [← e]; exact h.low z hz
theorem TlR.keepw {S S' T : Nat -> Prop} {base : Nat} {w w' : World} {m : Md} {x : Tl} (h : TlR S base w m x) (o : Off T w w') (hT : ∀ k, T k -> S k /\ base <= k) (hS' : ∀ k, S' k -> S k ∨ w.heap.size <= k) : ∀ y ∈ x.ws, zs_ S' w' (fun W' => Ls .u8 W' y.ka y.kc y.K /\ RdR W' y.r.ra y.r.R) :=
 fun y hy => (h.wst y hy).step (o.mono fun k hk => (hT k hk).1) hS'
theorem TlR.keepr {S S' T : Nat -> Prop} {base : Nat} {w w' : World} {m : Md} {x : Tl} (h : TlR S base w m x) (o : Off T w w') (hT : ∀ k, T k -> S k /\ base <= k) (hS' : ∀ k, S' k -> S k ∨ w.heap.size <= k) : ∀ y ∈ x.rs, zs_ (Rb S' base) w' (fun W' => yg_ W' y.pa y.P) :=
 fun y hy => (h.rst y hy).step (o.mono fun k hk => .inl (hT k hk).1) fun k hk => hk.elim (fun h => (hS' k h).imp .inl id) fun h => .inl (.inr h)
theorem TlR.below {S : Nat -> Prop} {base : Nat} {w w' : World} {m : Md} {x : Tl} (h : TlR S base w m x) (b : Below w.heap.size w w') : TlR S base w' m x := by
 have o : Off (fun _ => False) w w' := Off.of b
 have hT : ∀ k, (fun _ : Nat => False) k -> S k /\ base <= k := fun k hk => hk.elim
 have hS' : ∀ k, S k -> S k ∨ w.heap.size <= k := fun k hk => .inl hk
 exact h.next o hT x rfl rfl rfl rfl rfl (h.box.below b) (fun y hy => (h.wmaps y hy).below b) (ze_ h.own b) (ze_ h.rown b) S (fun _ h => h) hS' (fun k hk => Nat.lt_of_lt_of_le (h.bd k hk) b.size) h.hw h.hr (h.keepw o hT hS') h.wok (h.keepr o hT hS') h.coh h.wl h.few h.rfew
theorem tset_dev {S : Nat -> Prop} {base : Nat} {w : World} {m : Md} {x : Tl} (h : TlR S base w m x) (hbs : base <= w.heap.size) (t : Nat) (ht : t < m.tabs.length) (K : List Int) (ok : zH_ K) (ka : Option Addr) (kn kc : Nat) (hK : K.length = kn) (hk : Ls .u8 w ka kc K)
  (ra : Option Addr) (rn rc : Nat) (R : List P1) (hR : R.length = rn) (okR : R ≠ [] -> rOk (R.map P1.bs)) (hr : RdR w ra R) (hf : x.ws.length < 1000) (y : Nat × List (List Int × Nat)) (hy : x.wm[t]? = some y) (i : Nat) (hi : zU_ y.2 K = some i) :
  Calls prog 140 #[.pointer (some ⟨x.px, 0, none⟩), .int .i64 (t : Int), .slice ka kn kc, .slice ra rn rc] w fun r w' => r = .returned (.tuple #[]) /\ ∃ wt a8 c8 R8 w8 g c, x.ws[i]? = some wt /\ wt.t = t /\ wt.K = K /\ x.wv = .slice (some ⟨g, 0, none⟩) x.ws.length c /\ w' = w8.setCell ⟨g, i * 3 + 2, none⟩ (.slice a8 rn c8) /\ R8.length = rn /\ R8.map P1.bs = R.map P1.bs /\ Below w.heap.size w w8 /\ zs_ S w8 (fun W => RdR W a8 R8) := by
 obtain ⟨wt, h1, _, hwt, hwk⟩ := h.find_some hy hi
 obtain ⟨c0, c1, c2, c3, c4⟩ := h.c
 have hfew := h.md.few
 have hwl := h.wlen
 have ht0 : ¬ (t : Int) < 0 := by omega
 have ht2 : (t : Int) < (x.wm.length : Int) := by omega
 have hl2 : (x.wm.length : Int) <= 1000000 := by omega
 have hkn : kn <= 1000000 := by have := ok.2; omega
 have HX := hid (fun X (b : Below w.heap.size w X) => (⟨tcb b c1, (h.below b).st.now.tab t y hy, zA_ X ka kn kc K hK (hk.below b).rd, by have := ((h.below b).wmaps y (List.mem_of_getElem? hy)).look (t := 173) (e := 3) underlying173 (zero3 X) ok.1 (xO_ Xt0); rw [hi] at this; exact this⟩ : X.cell? ⟨x.px, 1, none⟩ = some (.slice (some ⟨x.bw, 0, none⟩) x.wm.length x.wc) /\ X.cell? ⟨x.bw, t, none⟩ = some (.map (some y.1)) /\ (convert 42 9 (.slice ka kn kc)).run prog X = .ok (.string (strOfNums K)) X /\ (Instr.lookup 173 (.map (some y.1)) (.string (strOfNums K)) true).run prog X = .ok (.tuple #[.int .i64 (i : Int), .bool true]) X))
 obtain ⟨a4, c5, hv⟩ := zd_ h.own
 have ho := h.own
 rw [hv] at ho c2
 obtain ⟨g, rfl, hg, hcl⟩ := zt_ zP_ Xt0 ho rfl i wt h1
 have HW5 := hid (fun X (b : Below w.heap.size w X) => tcb b c2)
 have HZ5 := hid (fun X (b : Below w.heap.size w X) => (by
  have ow := ze_ ho b
  obtain ⟨g', e, _, hh⟩ := zt_ zP_ Xt0 ow rfl i wt h1
  cases e
  exact ⟨hh 2 Xt0, ow.frozenAt _⟩ : X.cell? ⟨g, i * 3 + 2, none⟩ = some (.slice wt.r.ra wt.r.R.length wt.r.rc) /\ X.frozen? ⟨g, i * 3 + 2, none⟩ = false))
 have HRR := hid (And.intro hR (And.intro (show rn <= 9000 by
  by_cases e : R = []
  ·rw [← hR, e]; simp
  ·have := (okR e).2.1; rw [List.length_map] at this; omega) (And.intro (show ∀ q ∈ R, q.bs.length <= 9000 from fun q hq => by
  have := ((okR (fun e => by rw [e] at hq; simp at hq)).2.2 q.bs (List.mem_map.2 ⟨q, hq, rfl⟩)).2; omega) (fun X (b : Below w.heap.size w X) => hr.below b))))
 have hi1 := (List.getElem?_eq_some_iff.1 h1).1
 have hi2 : (i : Int) < (x.ws.length : Int) := by omega
 have hi3 : ¬ (i : Int) < 0 := by omega
 have hi4 : (x.ws.length : Int) <= 1000000 := by omega
 have HFIN := hid (And.intro h1 (And.intro hwt (And.intro hwk hv)))
 have HBD := hid h.bd
 clear hi h hy hwl ht ok hK hfew h1 ho hcl hg hv hi1 hk hr okR hR hwt hwk c0 c1 c2 c3 c4
 go_enter func140, ntmps140
 go_upto_region 0 with (fail)
 refine rgw w (Below.refl _ _).drew fun hH => ?_
 refine tkq3 0 1 2 ?_
 refine tkr 3 rfl Xf1 ?_
 refine tkq2 4 5 ?_
 refine tkr 6 rfl Xf3 ?_
 refine tkq 7 ?_
 refine tkr 8 rfl Xf2 ?_
 refine tkr 9 rfl Xf6 ?_
 refine tkq4 10 11 12 13 ?_
 refine tkq 14 ?_
 refine adn ?_
 skip
 generalize w.drew = W1 at hH ⊢
 have HBK := hid hH
 go_upto_region 5 with (fail)
 have HW5 := hid (fun X (b : Below W1.heap.size W1 X) => HW5.out X (HBK.out.trans (b.mono HBK.out.size)))
 have HZ5 := hid (fun X (b : Below W1.heap.size W1 X) => HZ5.out X (HBK.out.trans (b.mono HBK.out.size)))
 clear hH
 refine zr_ (z := 9) (S := (fun X => Below W1.heap.size W1 X)) Xt3 ((Below.refl _ _).drew) fun hH => ?_
 refine tlk 0 rfl Xt2 ?_
 refine tlk 1 rfl Xt2 ?_
 refine tlk 2 rfl Xt2 ?_
 refine tlk 3 rfl (fun W hSw => by have m := HW5.out W hSw; exact tks) ?_
 refine tlk 4 rfl Xt2 ?_
 refine tlk 5 rfl Xt2 ?_
 refine tl1 6 rfl fun K hK => ?_
 go_simp
 refine (zZ_ ra R rn rc HRR.out.1 HRR.out.2.1 HRR.out.2.2.1 _ (HRR.out.2.2.2 _ (HBK.out.trans (hH.mono HBK.out.size)))).mono ?_; rintro r w8 ⟨⟨v8, rfl, hc8⟩, hb8⟩
 obtain ⟨a8, c8, R8, hv8, hl8, hm8, hst8⟩ := xz_ (S := S) hc8 HRR.out.1 (fun k hk => Nat.lt_of_lt_of_le (HBD.out k hk) (Nat.le_trans HBK.out.size hH.size))
 subst hv8
 go_wp2_with fail
 have HC8 := hid (And.intro hl8 (And.intro hm8 hst8))
 have HB8 := hid (za_ hH hb8)
 refine hK.out _ _ HB8.out (fun hHeldn => ?_)
 clear hK K hH hc8 hb8 hl8 hm8 hst8; have hH := hHeldn; clear hHeldn
 refine stP ?_
 refine tlf 7 rfl Xt2 ?_
 refine tlk 8 rfl Xt2 ?_
 refine tlz rfl fun K hK => ?_
 have hz := HZ5.out _ hH
 obtain ⟨x4, f4⟩ := hz
 go_simp
 refine hK.out _ _ ?_
 clear hK K x4 f4
 refine stP ?_
 refine zz_ Xt3 ?_ _
 skip
 refine bodyPost_end (v := .tuple #[]) (by simp [results, results140, go_sem]) rfl ?_
 have HFB := hid (HBK.out.trans (HB8.out.mono HBK.out.size))
 exact ⟨rfl, wt, a8, c8, R8, w8, g, c5, HFIN.out.1, HFIN.out.2.1, HFIN.out.2.2.1, HFIN.out.2.2.2, rfl, HC8.out.1, HC8.out.2.1, HFB.out, HC8.out.2.2⟩
end
end Go.Proofs.YthmofoldmdafoaaGreat
