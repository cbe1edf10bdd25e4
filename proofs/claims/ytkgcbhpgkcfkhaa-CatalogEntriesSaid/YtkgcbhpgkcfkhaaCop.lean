/- Rows that are copied, by contracts: each field is owned behind it. -/
import Derived.Test.YtkgcbhpgkcfkhaaSiz
import Derived.Test.YtkgcbhpgkcfkhaaSpl
import Derived.Test.YtkgcbhpgkcfkhaaReb
import Derived.ProofKit
namespace Go.Proofs.Ytkgcbhpgkcfkhaa
open Go.ChangeShapes Go.WideShapes Go.ChangeAt Go.RowKit
set_option linter.unusedVariables false
set_option linter.unusedSimpArgs false

def ClB (L : List Int) (n : Nat) (w : World) (r : Ending) (w' : World) : Prop := ∃ a' c', r = .returned (.slice a' n c') ∧ w'.ownsRow w.heap.size 5 1 (.slice a' n c') n (iv .u8 L)
set_option maxRecDepth 100000 in
set_option maxHeartbeats 1000000 in
theorem clone_own (a : Option Addr) (L : List Int) (n cap : Nat) (hL : L.length = n) (hn : n ≤ 1000000) (w : World) (hA : Ls .u8 w a cap L) :
    Calls Try.prog 65 #[.slice a n cap] w fun r w' => ClB L n w r w' ∧ Below w.heap.size w w' := by
  have HA := Lib.hid hA
  have HL := Lib.hid hL
  rcases a with _ | a
  · obtain ⟨rfl, rfl⟩ := hA.nl rfl
    simp only [List.length_nil] at hL
    subst hL
    have hsn : ∀ W, (binOp .eql 24 (.slice none 0 0) (.slice none 0 0)).run Try.prog W = .ok (.bool true) W := fun W => Lib.run_eql_slice_nil W 24 5 none 0 0 0 0 Try.underlying24
    clear hA
    go_enter Try.func65, Try.ntmps65
    go_wp2_with fail
    go_ret
    exact ⟨⟨none, 0, rfl, World.ownsRow_nil _ _ _ _⟩, Below.refl _ _⟩
  · clear hA hL
    have hsn : ∀ W, (binOp .eql 24 (.slice (some a) n cap) (.slice none 0 0)).run Try.prog W = .ok (.bool false) W := fun W => Lib.run_eql_slice_nil W 24 5 (some a) n cap 0 0 Try.underlying24
    go_enter Try.func65, Try.ntmps65
    go_wp2_with (at_builtin; refine append_ls eltB rfl (.tmp 5) (.tmp 6) rfl w.heap.size _ 0 [] rfl (World.ownsRow_lit w #[] 0 (Nat.le_refl _) (by decide) rfl) _ _ n L HL.out rfl (HA.out.below ((Below.refl _ _).alloc (Nat.le_refl _) _)) (by omega) (by simp) ?_)
    intro v2 w2 hown2 hgrow2
    have B2 := ((Below.refl w.heap.size w).alloc (Nat.le_refl _) _).grown hgrow2 (by simp) (fun j hj => by simp [Value.ownBlock] at hj; omega)
    obtain ⟨a', c', rfl, l', _⟩ := own_ls hown2 HL.out
    have H2 := Lib.hid hown2
    clear hown2 hgrow2
    go_wp2_with fail
    go_ret
    exact ⟨⟨a', c', rfl, by simpa using H2.out⟩, B2⟩
def CbB (L : List Int) (n : Nat) (w : World) (r : Ending) (w' : World) : Prop := ∃ a' c', r = .returned (.tuple #[.slice a' n c', .bool true]) ∧ w'.ownsRow w.heap.size 5 1 (.slice a' n c') n (iv .u8 L)
set_option maxRecDepth 100000 in
set_option maxHeartbeats 1000000 in
theorem copy1_law (i : Int) (a : Option Addr) (L : List Int) (n cap : Nat) (hL : L.length = n) (hn : n ≤ 1000000) (w : World) (hA : Ls .u8 w a cap L) :
    Calls Try.prog 64 #[.int .i64 i, .slice a n cap] w fun r w' => CbB L n w r w' ∧ Below w.heap.size w w' := by
  have H := Lib.hid (clone_own a L n cap hL hn w hA)
  clear hL hA
  go_enter Try.func64, Try.ntmps64
  go_wp2_with fail
  refine H.out.mono ?_; rintro e w' ⟨⟨a', c', rfl, o'⟩, B⟩
  go_wp2_with fail
  go_ret2
  exact ⟨⟨a', c', rfl, o'⟩, B⟩
/-- A row that is copied so far. -/
structure CpR (base : Nat) (R : List P1) (k : Nat) (v : Value) (W : World) : Prop where
  ex : ∃ R' : List P1, R'.map P1.bs = (R.take k).map P1.bs ∧ W.ownsRow base 24 1 v k (R'.map P1.v) ∧ ∀ p ∈ R', W.ownsRow base 5 1 p.v p.bs.length (iv .u8 p.bs)
theorem CpR.nil (base : Nat) (R : List P1) (W : World) : CpR base R 0 (.slice none 0 0) W := ⟨[], rfl, World.ownsRow_nil _ _ _ _, fun p hp => by simp at hp⟩
theorem CpR.below {base k : Nat} {R : List P1} {v : Value} {W W' : World} (h : CpR base R k v W) (hb : Below W.heap.size W W') : CpR base R k v W' := by
  obtain ⟨R', h1, h2, h3⟩ := h.ex
  exact ⟨R', h1, own_kept h2 hb, fun p hp => own_kept (h3 p hp) hb⟩
theorem CpR.drew {base k : Nat} {R : List P1} {v : Value} {W : World} (h : CpR base R k v W) : CpR base R k v W.drew := by
  exact h.below (Below.refl _ _).drew
theorem cpR_next {base k : Nat} {R : List P1} {v v4 : Value} {w3 w4 : World} {o : Obj} (R' : List P1) (h1 : R'.map P1.bs = (R.take k).map P1.bs) (h2 : w3.ownsRow base 24 1 v k (R'.map P1.v)) (h3 : ∀ p ∈ R', w3.ownsRow base 5 1 p.v p.bs.length (iv .u8 p.bs)) (p : P1) (hp : R[k]? = some p) (m : Nat) (hm : p.bs.length = m) (a1 : Option Addr) (c1 : Nat) (ho : w3.ownsRow base 5 1 (.slice a1 m c1) m (iv .u8 p.bs))
    (h4 : w4.ownsRow base 24 1 v4 (k + 1) (R'.map P1.v ++ [.slice a1 m c1])) (hg : (w3.alloc o).grownBy w4 v.ownBlock) : CpR base R (k + 1) v4 w4 := by
  subst hm
  have keep : ∀ (x : Value) (m : Nat) (xs : List Value), w3.ownsRow base 5 1 x m xs → w4.ownsRow base 5 1 x m xs := fun x m xs hx => (hx.alloc _).kept hg (own_apart hx h2 (by decide))
  refine ⟨R' ++ [⟨a1, c1, p.bs⟩], ?_, ?_, fun q hq => ?_⟩
  · rw [List.map_append, h1, List.take_add_one, hp]; simp
  · rw [List.map_append]; exact h4
  · rcases List.mem_append.1 hq with hq | hq
    · exact keep _ _ _ (h3 q hq)
    · simp at hq
      subst hq
      exact keep _ _ _ ho
theorem cinfo24 : (Try.prog.info? 24).map (fun i => (i.zero, i.size, i.bytes)) = some (some (.slice none 0 0), 1, 24) := by kernel_rfl
def EcB (base : Nat) (R : List P1) (n : Nat) (r : Ending) (w' : World) : Prop := ∃ v, r = .returned (.tuple #[v, .bool true]) ∧ CpR base R n v w'
set_option maxRecDepth 100000 in
set_option maxHeartbeats 2000000 in
theorem eachcopy_law (a : Option Addr) (R : List P1) (n cap : Nat) (hn : R.length = n) (hn3 : n ≤ 9000) (hl : ∀ p ∈ R, p.bs.length ≤ 9000) (w : World) (hR : RdR w a R) :
    Calls Try.prog 63 #[.slice a n cap, .func (.func 64) #[] #[]] w fun r w' => EcB w.heap.size R n r w' ∧ Below w.heap.size w w' := by
  have HR := Lib.hid hR
  have HN := Lib.hid hn
  have HLL := Lib.hid hl
  clear hR hn hl
  obtain ⟨i0, hi, hz0, hz1, hz2⟩ := info_parts cinfo24
  go_enter Try.func63, Try.ntmps63
  go_wp2_with fail
  go_loopw [6, 13] (fun v i wr => ∃ k : Nat, k ≤ n ∧ i = .int .i64 k ∧ CpR w.heap.size R k v wr ∧ Below w.heap.size w wr) (fun _ i _ => n - (intOf i).toNat)
  case atStart => exact ⟨0, by omega, rfl, CpR.nil _ _ _, Below.refl _ _⟩
  case round =>
    obtain ⟨k, hk, rfl, hc, B⟩ := hrel
    by_cases hlt : k < n
    · have hkl : (k : Int) < (n : Int) := by omega
      obtain ⟨p, hp⟩ : ∃ p, R[k]? = some p := ⟨_, List.getElem?_eq_getElem (by rw [HN.out]; exact hlt)⟩
      obtain ⟨b1, o1, e1, c1, l1⟩ := HR.out.below B k p hp
      subst e1
      have c2 : wr.cell? ⟨b1, o1 + k, none⟩ = some (.slice p.ad p.bs.length p.cap) := c1
      have HPP := Lib.hid hp
      have hp9 := HLL.out p (List.mem_of_getElem? hp)
      obtain ⟨q, hq⟩ : ∃ q, p.bs.length = q := ⟨_, rfl⟩
      rw [hq] at c2 hp9
      have HQ := Lib.hid hq
      have hs1 := B.size
      have H1 := Lib.hid (copy1_law (k : Int) p.ad p.bs q p.cap hq (by omega) wr l1)
      have HC := Lib.hid hc
      clear c1 hp hq l1 hc
      go_wp2_with fail
      refine H1.out.mono ?_; rintro e w3 ⟨⟨a1, c1, rfl, ho⟩, B3⟩
      obtain ⟨R', r1, r2, r3⟩ := (HC.out.below B3).ex
      have HO := Lib.hid (own_base hs1 ho)
      have R1 := Lib.hid r1
      have R2 := Lib.hid r2
      have R3 := Lib.hid r3
      have hs3 : w.heap.size ≤ w3.heap.size := Nat.le_trans hs1 B3.size
      clear ho r1 r2 r3 HC H1
      go_wp2_with (at_builtin; refine wpList_append_own _ rfl (.tmp 28) (.tmp 30) 22 rfl w.heap.size 24 i0 (.slice none 0 0) 1 24 Try.underlying22 hi hz0 hz1 hz2 rfl (by decide) _ k (R'.map P1.v) rfl (R2.out.alloc _) ⟨w3.heap.size, 0, none⟩ 1 1 [.slice a1 q c1] rfl rfl (by intro j u hj; match j, hj with | 0, hj => (simp at hj; subst hj; simp [Addr.add, go_sem])) (by intro u hu; simp at hu; subst hu; rfl) (by unfold maxLen; omega) (by omega) (by simp; omega) ?_)
      intro v4 w4 hown4 hgrow4 _
      have b4 : Below w.heap.size w3 w4 := ((Below.refl _ w3).alloc hs3 _).grown hgrow4 (by simp; omega) (fun j hj => (R2.out.lt j hj).1)
      have HT4 := Lib.hid (cpR_next R' R1.out R2.out R3.out p HPP.out q HQ.out a1 c1 HO.out hown4 hgrow4)
      have HB4 := Lib.hid ((step_below B B3).trans b4)
      clear b4 hown4 hgrow4 B3 B
      go_wp2_with fail
      go_roundw
      case rel => exact ⟨k + 1, by omega, by go_num, HT4.out, HB4.out⟩
      case measure => simp [intOf]; omega
    · have hkl : ¬ (k : Int) < (n : Int) := by omega
      obtain rfl : k = n := by omega
      have HC := Lib.hid hc
      clear hc
      go_wp2_with fail
      go_ret2
      exact ⟨⟨_, rfl, HC.out⟩, B⟩
def RcB (base : Nat) (R : List P1) (n : Nat) (r : Ending) (w' : World) : Prop := ∃ v, r = .returned v ∧ CpR base R n v w'
set_option maxRecDepth 100000 in
set_option maxHeartbeats 1000000 in
theorem rowcopy_law (a : Option Addr) (R : List P1) (n cap : Nat) (hn : R.length = n) (hn3 : n ≤ 9000) (hl : ∀ p ∈ R, p.bs.length ≤ 9000) (w : World) (hR : RdR w a R) :
    Calls Try.prog 17 #[.slice a n cap] w fun r w' => RcB w.heap.size R n r w' ∧ Below w.heap.size w w' := by
  have H := Lib.hid (eachcopy_law a R n cap hn hn3 hl w hR)
  clear hn hl hR
  go_enter Try.func17, Try.ntmps17
  go_wp2_with fail
  refine H.out.mono ?_; rintro e w' ⟨⟨v, rfl, hc⟩, B⟩
  have HC := Lib.hid hc
  clear hc
  go_wp2_with fail
  go_ret
  exact ⟨⟨_, rfl, HC.out⟩, B⟩
set_option maxRecDepth 100000 in
set_option maxHeartbeats 2000000 in
theorem refcopy_law (a : Option Addr) (R : List P1) (n cap : Nat) (hn : R.length = n) (hn3 : n ≤ 9000) (hl : ∀ p ∈ R, p.bs.length ≤ 9000) (w : World) (hR : RdR w a R) :
    Calls Try.prog 14 #[.slice a n cap] w fun r w' => RcB w.heap.size R n r w' ∧ Below w.heap.size w w' := by
  have HR := Lib.hid hR
  have HN := Lib.hid hn
  have HLL := Lib.hid hl
  clear hR hn hl
  obtain ⟨i0, hi, hz0, hz1, hz2⟩ := info_parts cinfo24
  go_enter Try.func14, Try.ntmps14
  go_wp2_with fail
  go_loopw [3, 4] (fun v i wr => ∃ k : Nat, k ≤ n ∧ i = .int .i64 k ∧ CpR w.heap.size R k v wr ∧ Below w.heap.size w wr) (fun _ i _ => n - (intOf i).toNat)
  case atStart => exact ⟨0, by omega, rfl, CpR.nil _ _ _, Below.refl _ _⟩
  case round =>
    obtain ⟨k, hk, rfl, hc, B⟩ := hrel
    by_cases hlt : k < n
    · have hkl : (k : Int) < (n : Int) := by omega
      obtain ⟨p, hp⟩ : ∃ p, R[k]? = some p := ⟨_, List.getElem?_eq_getElem (by rw [HN.out]; exact hlt)⟩
      obtain ⟨b1, o1, e1, c1, l1⟩ := HR.out.below B k p hp
      subst e1
      have c2 : wr.cell? ⟨b1, o1 + k, none⟩ = some (.slice p.ad p.bs.length p.cap) := c1
      have HPP := Lib.hid hp
      have hp9 := HLL.out p (List.mem_of_getElem? hp)
      obtain ⟨q, hq⟩ : ∃ q, p.bs.length = q := ⟨_, rfl⟩
      rw [hq] at c2 hp9
      have HQ := Lib.hid hq
      have hs1 := B.size
      have HC := Lib.hid hc
      have HL1 := Lib.hid l1
      clear c1 hp hq l1 hc
      go_wp2_with (at_builtin; refine append_ls eltB rfl (.const (.slice none 0 0)) (.tmp 15) rfl wr.heap.size _ 0 [] rfl (World.ownsRow_nil _ _ _ _) _ _ q p.bs HQ.out rfl HL1.out (by omega) (Nat.le_refl _) ?_)
      intro v3 w3 ho hg3
      have B3 : Below wr.heap.size wr w3 := (Below.refl wr.heap.size wr).grown hg3 (Nat.le_refl _) (fun j hj => by cases hj)
      obtain ⟨a1, c1, rfl, _⟩ := own_ls ho HQ.out
      obtain ⟨R', r1, r2, r3⟩ := (HC.out.below B3).ex
      have HO := Lib.hid (own_base hs1 ho)
      have R1 := Lib.hid r1
      have R2 := Lib.hid r2
      have R3 := Lib.hid r3
      have hs3 : w.heap.size ≤ w3.heap.size := Nat.le_trans hs1 B3.size
      clear ho r1 r2 r3 HC HL1 hg3
      go_wp2_with (at_builtin; refine wpList_append_own _ rfl (.tmp 11) (.tmp 17) 23 rfl w.heap.size 24 i0 (.slice none 0 0) 1 24 Try.underlying23 hi hz0 hz1 hz2 rfl (by decide) _ k (R'.map P1.v) rfl (R2.out.alloc _) ⟨w3.heap.size, 0, none⟩ 1 1 [.slice a1 q c1] rfl rfl (by intro j u hj; match j, hj with | 0, hj => (simp at hj; subst hj; simp [Addr.add, go_sem])) (by intro u hu; simp at hu; subst hu; rfl) (by unfold maxLen; omega) (by omega) (by simp; omega) ?_)
      intro v4 w4 hown4 hgrow4 _
      have b4 : Below w.heap.size w3 w4 := ((Below.refl _ w3).alloc hs3 _).grown hgrow4 (by simp; omega) (fun j hj => (R2.out.lt j hj).1)
      have HT4 := Lib.hid (cpR_next R' R1.out R2.out R3.out p HPP.out q HQ.out a1 c1 HO.out hown4 hgrow4)
      have HB4 := Lib.hid ((step_below B B3).trans b4)
      clear b4 hown4 hgrow4 B3 B
      go_wp2_with fail
      go_roundw
      case rel => exact ⟨k + 1, by omega, by go_num, HT4.out, HB4.out⟩
      case measure => simp [intOf]; omega
    · have hkl : ¬ (k : Int) < (n : Int) := by omega
      obtain rfl : k = n := by omega
      have HC := Lib.hid hc
      clear hc
      go_wp2_with fail
      go_ret
      exact ⟨⟨_, rfl, HC.out⟩, B⟩
end Go.Proofs.Ytkgcbhpgkcfkhaa
