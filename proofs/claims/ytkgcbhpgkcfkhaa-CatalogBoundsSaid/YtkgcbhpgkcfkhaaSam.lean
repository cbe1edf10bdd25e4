/- Rows that are compared, and their size, by contracts; a row that came in, opened. -/
import Derived.Test.YtkgcbhpgkcfkhaaByt
import Derived.Deep.Matrix
import Derived.ProofKit
import Derived.OpenShut
import Derived.Lib.Bytes
namespace Go.Proofs.Ytkgcbhpgkcfkhaa
open Go.ChangeShapes Go.WideShapes Go.ChangeAt Go.RowKit
set_option linter.unusedVariables false
set_option linter.unusedSimpArgs false

section
variable {H : Type} {enc : TypeId × Value → H} {w : World} {base : Nat} {held : Bool} {d : DataW H} {ps : List MemPlace}
/-- A row that came in. -/
theorem open_row {a : Option Addr} {len cap : Nat} (hd : DataW.Trod enc Try.prog w base (fun _ => true) held 23 (.slice a len cap) d ps) :
    ∃ R : List P1, R.length = len ∧ RdR w a R ∧ ∀ p ∈ R, Byt p.bs := by
  obtain ⟨fuel, hf⟩ := hd
  rcases Deep.open_int_rows Try.underlying23 Try.underlying24 Try.underlying5 (by kernel_rfl) (by kernel_rfl) hf with ⟨hcs, _⟩ | ⟨x, l, c, A, L, C, Z, hcs, hb, hl, hm, hx, hr⟩
  · simp [Value.cells] at hcs
    obtain ⟨rfl, rfl, rfl⟩ := hcs
    exact ⟨[], rfl, RdR.nil _ _, fun p hp => by simp at hp⟩
  · simp [Value.cells] at hcs
    obtain ⟨rfl, rfl, rfl⟩ := hcs
    refine ⟨(List.range len).map fun r => ⟨A r, C r, (Z r).take (L r)⟩, by simp, fun k p hp => ?_, fun p hp => ?_⟩
    · have hk : k < len := by have := (List.getElem?_eq_some_iff.1 hp).1; simpa using this
      have hp' : p = ⟨A k, C k, (Z k).take (L k)⟩ := by
        simp [hk] at hp
        exact hp.symm
      subst hp'
      obtain ⟨hc, hLC, hCm, hZ, hwf, hnone, hsome⟩ := hr k (by omega)
      obtain ⟨b, off, spot⟩ := x
      obtain ⟨hc0, _⟩ := hr 0 (by omega)
      have hspot : spot = none := by simpa [Addr.add] using World.cell?_spot hc0
      subst hspot
      rw [addr_add] at hc
      have hlen : ((Z k).take (L k)).length = L k := by rw [List.length_take, hZ]; omega
      refine ⟨b, off, rfl, ?_, ⟨fun j hj => ?_, fun e => ?_, by simp only; rw [hlen]; exact hLC⟩⟩
      · rw [hc, P1.v, hlen]
      · simp only at hj ⊢
        rw [hlen] at hj
        cases hA : A k with
        | none => have := hnone hA; omega
        | some a' =>
          obtain ⟨_, hcell⟩ := hsome a' hA
          obtain ⟨b2, o2, spot2⟩ := a'
          have hc2 := hcell 0 (by omega)
          have hspot2 : spot2 = none := by simpa [Addr.add] using World.cell?_spot hc2
          subst hspot2
          refine ⟨b2, o2, rfl, ?_⟩
          have := hcell j (by omega)
          rw [addr_add] at this
          rw [this]
          simp [List.getD, List.getElem?_take, hj]
      · simp only at e ⊢
        have := hnone e
        exact ⟨List.length_eq_zero_iff.1 (by rw [hlen]; omega), this⟩
    · obtain ⟨r, hr2, rfl⟩ := List.mem_map.1 hp
      have hrl : r < len := by simpa using hr2
      obtain ⟨_, _, _, _, hwf, _⟩ := hr r (by omega)
      intro y hy
      have := hwf y (List.mem_of_mem_take hy)
      simpa [Lit.wf, IntKind.min, IntKind.max, IntKind.signed, IntKind.bits] using this
end

theorem kc2 (w : World) (a : Option Addr) (n cap : Nat) (L : List Int) (hn : L.length = n) (h : Ls .u8 w a cap L) : (convert 24 9 (.slice a n cap)).run Try.prog w = .ok (.string (strOfNums L)) w := conv_ls w a n cap L hn h.rd
theorem equal_law (a b : Option Addr) (L M : List Int) (n m ca cb : Nat) (hL : L.length = n) (hM : M.length = m) (bL : Byt L) (bM : Byt M) (w : World) (hA : Ls .u8 w a ca L) (hB : Ls .u8 w b cb M) :
    Calls Try.prog 70 #[.slice a n ca, .slice b m cb] w fun r w' => r = .returned (.bool (decide (L = M))) ∧ w = w' := by
  have q1 := kc2 w a n ca L hL hA
  have q2 := kc2 w b m cb M hM hB
  by_cases h : L = M
  · rw [decide_eq_true h]
    rw [← h] at q2
    clear h hL hM bL bM hA hB
    go_enter Try.func70, Try.ntmps70
    go_wp2
    go_ret
    exact ⟨rfl, rfl⟩
  · rw [decide_eq_false h]
    have hs : ((strOfNums L).toList == (strOfNums M).toList) = false := by
      rw [beq_eq_false_iff_ne]
      intro e
      rw [Lib.strOfNums_toList, Lib.strOfNums_toList] at e
      exact h (str_inj bL bM (ByteArray.ext (Array.toList_inj.1 (by rw [strOfNums_data, strOfNums_data]; exact e))))
    generalize strOfNums L = sL at q1 hs
    generalize strOfNums M = sM at q2 hs
    clear h hL hM bL bM hA hB
    go_enter Try.func70, Try.ntmps70
    go_wp2
    go_ret
    exact ⟨rfl, rfl⟩
theorem same1_law (i : Nat) (a : Option Addr) (L : List Int) (n cap : Nat) (hL : L.length = n) (bL : Byt L) (B : Nat) (S : List P1) (bad : Option Addr) (bn bc : Nat) (hS : S.length = bn) (q : P1) (hq : S[i]? = some q) (bq : Byt q.bs) (w : World) (hA : Ls .u8 w a cap L) (hB : RdR w bad S) (hb : w.cell? ⟨B, 0, none⟩ = some (.slice bad bn bc)) (hi : i ≤ 1000000) :
    Calls Try.prog 69 #[.int .i64 (i : Int), .slice a n cap, .pointer (some ⟨B, 0, none⟩)] w fun r w' => r = .returned (.tuple #[.int .i64 0, .bool (decide (L = q.bs))]) ∧ w = w' := by
  obtain ⟨b1, o1, rfl, c1, l1⟩ := hB i q hq
  have h := Lib.hid (equal_law a q.ad L q.bs n q.bs.length cap q.cap hL rfl bL bq w hA l1)
  have c2 : w.cell? ⟨b1, o1 + i, none⟩ = some (.slice q.ad q.bs.length q.cap) := c1
  have hil : (i : Int) < (bn : Int) := by have := (List.getElem?_eq_some_iff.1 hq).1; omega
  obtain ⟨m, hm⟩ : ∃ m, q.bs.length = m := ⟨_, rfl⟩
  rw [hm] at h c2
  clear c1 hm hq hB hS l1 hA hL
  go_enter Try.func69, Try.ntmps69
  go_wp2_with fail
  refine h.out.mono ?_; rintro e w' ⟨rfl, rfl⟩
  go_wp2_with fail
  go_ret2
  exact ⟨rfl, rfl⟩
def eqB (R S : List P1) : Bool := decide (R.map P1.bs = S.map P1.bs)
set_option maxRecDepth 100000 in
set_option maxHeartbeats 2000000 in
theorem eachsame_law (a : Option Addr) (R S : List P1) (n cap B : Nat) (bad : Option Addr) (bc : Nat) (hn : R.length = n) (hS : S.length = n) (hn3 : n ≤ 1000000) (bR : ∀ p ∈ R, Byt p.bs) (bS : ∀ p ∈ S, Byt p.bs) (w : World) (hR : RdR w a R) (hB : RdR w bad S) (hb : w.cell? ⟨B, 0, none⟩ = some (.slice bad n bc)) :
    Calls Try.prog 66 #[.slice a n cap, .func (.func 69) #[] #[.pointer (some ⟨B, 0, none⟩)]] w fun r w' => (∃ v, r = .returned (.tuple #[v, .bool (eqB R S)])) ∧ Below w.heap.size w w' := by
  have HR := Lib.hid hR
  have HS := Lib.hid hB
  have HN := Lib.hid hn
  have HM := Lib.hid hS
  have hbl := World.block_lt_of_cell? w _ hb
  have HBC := Lib.hid (fun W (bl : Below w.heap.size w W) => ((bl.cell (p := ⟨B, 0, none⟩) hbl).trans hb : W.cell? ⟨B, 0, none⟩ = some (.slice bad n bc)))
  have BR := Lib.hid bR
  have BS := Lib.hid bS
  clear hR hB hn hS hb bR bS hbl
  go_enter Try.func66, Try.ntmps66
  go_wp2_with fail
  go_loopw [6, 13] (fun v i wr => ∃ k : Nat, k ≤ n ∧ i = .int .i64 k ∧ wr.ownsRow w.heap.size 3 1 v k (iv .i64 (List.replicate k 0)) ∧ (∀ j < k, ∀ p q, R[j]? = some p → S[j]? = some q → p.bs = q.bs) ∧ Below w.heap.size w wr) (fun _ i _ => n - (intOf i).toNat)
  case atStart => exact ⟨0, by omega, rfl, World.ownsRow_nil _ _ _ _, fun j hj => absurd hj (by omega), Below.refl _ _⟩
  case round =>
    obtain ⟨k, hk, rfl, hown, hpre, B0⟩ := hrel
    have HP := Lib.hid hpre
    clear hpre
    by_cases hlt : k < n
    · have hkl : (k : Int) < (n : Int) := by omega
      obtain ⟨p, hp⟩ : ∃ p, R[k]? = some p := ⟨_, List.getElem?_eq_getElem (by rw [HN.out]; exact hlt)⟩
      obtain ⟨q, hq⟩ : ∃ q, S[k]? = some q := ⟨_, List.getElem?_eq_getElem (by rw [HM.out]; exact hlt)⟩
      obtain ⟨b1, o1, e1, c1, l1⟩ := HR.out.below B0 k p hp
      subst e1
      have c2 : wr.cell? ⟨b1, o1 + k, none⟩ = some (.slice p.ad p.bs.length p.cap) := c1
      have h1 := same1_law k p.ad p.bs p.bs.length p.cap rfl (BR.out p (List.mem_of_getElem? hp)) B S bad n bc HM.out q hq (BS.out q (List.mem_of_getElem? hq)) wr l1 (HS.out.below B0) (HBC.out _ B0) (by omega)
      have HPP := Lib.hid hp
      have HQQ := Lib.hid hq
      obtain ⟨m, hm⟩ : ∃ m, p.bs.length = m := ⟨_, rfl⟩
      rw [hm] at c2 h1
      have hs1 := B0.size
      clear c1 hp hq hm l1
      by_cases hle : p.bs = q.bs
      · rw [decide_eq_true hle] at h1
        have H1 := Lib.hid h1
        have HLE := Lib.hid hle
        have HOWN := Lib.hid hown
        clear h1 hle hown
        go_wp2_with fail
        refine H1.out.mono ?_; rintro e w' ⟨rfl, rfl⟩
        go_wp2_with (at_builtin; refine append_ls eltI rfl (.tmp 28) (.tmp 30) rfl w.heap.size _ k (iv .i64 (List.replicate k 0)) rfl (HOWN.out.alloc _) _ _ 1 [0] rfl rfl (ls_new .i64 _ [0] _ _ _ rfl 1 rfl) (by omega) (by simp; omega) ?_)
        intro v2 w3 hown3 hgrow3
        rw [← iv_append, show List.replicate k (0 : Int) ++ [0] = List.replicate (k + 1) 0 from (List.replicate_succ' ..).symm] at hown3
        have B4 := (B0.alloc hs1 _).grown hgrow3 (by simp; omega) (fun j hj => (HOWN.out.lt j hj).1)
        have HOWN3 := Lib.hid hown3
        clear hown3 hgrow3
        go_wp2_with fail
        go_roundw
        case rel => exact ⟨k + 1, by omega, by go_num, HOWN3.out, jstep HP.out (fun p' q' hp' hq' => by have h1 := HPP.out; have h2 := HQQ.out; rw [hp'] at h1; rw [hq'] at h2; cases h1; cases h2; exact HLE.out), B4⟩
        case measure => simp [intOf]; omega
      · rw [decide_eq_false hle] at h1
        have H1 := Lib.hid h1
        have HA := Lib.hid (show eqB R S = false from decide_eq_false fun e => hle (by
          have := congrArg (fun l : List (List Int) => l[k]?) e
          simpa [HPP.out, HQQ.out] using this))
        clear h1 hle hown
        go_wp2_with fail
        refine H1.out.mono ?_; rintro e w' ⟨rfl, rfl⟩
        go_wp2_with fail
        go_ret2
        exact ⟨⟨_, by rw [HA.out]; rfl⟩, B0⟩
    · have hkl : ¬ (k : Int) < (n : Int) := by omega
      have HA := Lib.hid (show eqB R S = true from decide_eq_true (by
        apply List.ext_getElem
        · simp [HN.out, HM.out]
        · intro i h1 h2
          simp at h1 h2
          simp
          exact HP.out i (by have := HN.out; omega) _ _ (List.getElem?_eq_getElem h1) (List.getElem?_eq_getElem h2)))
      clear hown
      go_wp2_with fail
      go_ret2
      exact ⟨⟨_, by rw [HA.out]; rfl⟩, B0⟩
theorem eqB_len {R S : List P1} (h : R.length ≠ S.length) : eqB R S = false := decide_eq_false fun e => h (by simpa using congrArg List.length e)
set_option maxRecDepth 100000 in
set_option maxHeartbeats 1000000 in
theorem same_law (a b : Option Addr) (R S : List P1) (n m ca cb : Nat) (hn : R.length = n) (hm : S.length = m) (hn3 : n ≤ 1000000) (bR : ∀ p ∈ R, Byt p.bs) (bS : ∀ p ∈ S, Byt p.bs) (w : World) (hR : RdR w a R) (hS : RdR w b S) :
    Calls Try.prog 23 #[.slice a n ca, .slice b m cb] w fun r w' => r = .returned (.bool (eqB R S)) ∧ Below w.heap.size w w' := by
  by_cases h : n = m
  · subst h
    have b0 : Below w.heap.size w (w.alloc (.cells #[.slice b n cb] 23)) := (Below.refl _ _).alloc (Nat.le_refl _) _
    have hc : (w.alloc (.cells #[.slice b n cb] 23)).cell? ⟨w.heap.size, 0, none⟩ = some (.slice b n cb) := by rw [cell_new]; rfl
    have h := Lib.hid (eachsame_law a R S n ca w.heap.size b cb hn hm hn3 bR bS _ (hR.below b0) (hS.below b0) hc)
    have hmf : ∀ (fn : Fn) (first cap : Array Value) (w : World), (Instr.makeFunc fn first cap).run Try.prog w = .ok (.func fn first cap) w := fun _ _ _ _ => rfl
    have B0 := Lib.hid b0
    clear hn hm bR bS hR hS b0 hc
    go_enter Try.func23, Try.ntmps23
    go_wp2_with fail
    refine h.out.mono ?_; rintro e w' ⟨⟨v, rfl⟩, B⟩
    go_wp2_with fail
    go_ret
    exact ⟨rfl, step_below B0.out B⟩
  · have hne : ((n : Int) != (m : Int)) = true := by simp; omega
    rw [eqB_len (by omega)]
    clear h hn hm bR bS hR hS
    go_enter Try.func23, Try.ntmps23
    go_wp2_with fail
    go_ret
    exact ⟨rfl, (Below.refl _ _).alloc (Nat.le_refl _) _⟩
end Go.Proofs.Ytkgcbhpgkcfkhaa
