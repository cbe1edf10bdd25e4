/- RowReads: its walk. -/
import Derived.Test.YtkgcbhpgkcfkhaaDoorGrw
import Derived.Test.YtkgcbhpgkcfkhaaDoorGrv
import Derived.Test.YtkgcbhpgkcfkhaaDoorKno
namespace Go.Proofs.YtkgcbhpgkcfkhaaDoor
open Go.ChangeShapes Go.WideShapes Go.ChangeAt Go.RowKit
set_option linter.unusedVariables false
set_option linter.unusedSimpArgs false

open Classical in
/-- What bytes are as a row, and the error. -/
noncomputable def rdV (L : List Int) : List (List Int) × Int := if h : ∃ fs, VF fs ∧ L = encR fs then (h.choose, 0) else ([], 4)
open Classical in
/-- What words are. -/
noncomputable def owV (U : List Int) : List (List Int) × Int := if h : ∃ fs, HeadT U ∧ VF fs ∧ headB U = encR fs then (h.choose, 0) else ([], 4)
theorem rdV_yes {L : List Int} {fs : List (List Int)} (h : VF fs) (e : L = encR fs) : rdV L = (fs, 0) := by
  have hx : ∃ fs, VF fs ∧ L = encR fs := ⟨fs, h, e⟩
  unfold rdV
  rw [dif_pos hx]
  have := hx.choose_spec
  rw [encR_inj (this.2.symm.trans e)]
theorem rdV_no {L : List Int} (h : ∀ fs, VF fs → L ≠ encR fs) : rdV L = ([], 4) := by
  unfold rdV
  rw [dif_neg]
  rintro ⟨fs, h1, h2⟩
  exact h fs h1 h2
theorem owV_yes {U : List Int} {fs : List (List Int)} (h0 : HeadT U) (h : VF fs) (e : headB U = encR fs) : owV U = (fs, 0) := by
  have hx : ∃ fs, HeadT U ∧ VF fs ∧ headB U = encR fs := ⟨fs, h0, h, e⟩
  unfold owV
  rw [dif_pos hx]
  have := hx.choose_spec
  rw [encR_inj (this.2.2.symm.trans e)]
theorem owV_no {U : List Int} (h : ∀ fs, VF fs → HeadT U → headB U ≠ encR fs) : owV U = ([], 4) := by
  unfold owV
  rw [dif_neg]
  rintro ⟨fs, h0, h1, h2⟩
  exact h fs h1 h0 h2
theorem byt_map {R : List P1} {fs : List (List Int)} {L : List Int} (h : R.map P1.bs = fs) (e : L = encR fs) (hB : Byt L) : ∀ p ∈ R, Byt p.bs := byts_of (by rw [rbytes_enc, h, ← e]; exact hB)
/-- One form of what is read. -/
def Rres (V : List (List Int) × Int) (q : Nat) (e : Int) (r : Ending) (w' : World) : Prop := ∃ (a' : Option Addr) (c' : Nat) (R : List P1), r = .returned (.tuple #[.slice a' q c', .int .i64 e]) ∧ R.map P1.bs = V.1 ∧ R.length = q ∧ RdR w' a' R ∧ ∀ p ∈ R, Byt p.bs
def RresF (base : Nat) (V : List (List Int) × Int) (q : Nat) (e : Int) (r : Ending) (w' : World) : Prop := ∃ (a' : Option Addr) (c' : Nat) (R : List P1), r = .returned (.tuple #[.slice a' q c', .int .i64 e]) ∧ R.map P1.bs = V.1 ∧ R.length = q ∧ RdR w' a' R ∧ FlipI base a' R w' ∧ ∀ p ∈ R, Byt p.bs
theorem rres_of {L : List Int} {r : Ending} {w' : World} (hB : Byt L) (h : ReP L r w') : Rres (rdV L) (rdV L).1.length (rdV L).2 r w' := by
  rcases h with ⟨fs, a', c', R, hv, he, rfl, hRm, hR⟩ | ⟨hno, rfl⟩
  · rw [rdV_yes hv he]
    exact ⟨a', c', R, rfl, hRm, by rw [← hRm]; simp, hR, byt_map hRm he hB⟩
  · rw [rdV_no hno]
    exact ⟨none, 0, [], rfl, rfl, rfl, RdR.nil _ _, fun p hp => by simp at hp⟩
theorem rresF_of {base : Nat} {L : List Int} {r : Ending} {w' : World} (hB : Byt L) (h : RePF base L r w') : RresF base (rdV L) (rdV L).1.length (rdV L).2 r w' := by
  rcases h with ⟨fs, a', c', R, hv, he, rfl, hRm, hR, hF⟩ | ⟨hno, rfl⟩
  · rw [rdV_yes hv he]
    exact ⟨a', c', R, rfl, hRm, by rw [← hRm]; simp, hR, hF, byt_map hRm he hB⟩
  · rw [rdV_no hno]
    exact ⟨none, 0, [], rfl, rfl, rfl, RdR.nil _ _, fun k p hp => by simp at hp, fun p hp => by simp at hp⟩
theorem headB_byt (U : List Int) : Byt (headB U) := (unL_byt U _).take _
theorem rres_ow {U : List Int} {r : Ending} {w' : World} (h : OfP U r w') : Rres (owV U) (owV U).1.length (owV U).2 r w' := by
  rcases h with ⟨fs, a', c', R, h0, hv, he, rfl, hRm, hR⟩ | ⟨hno, rfl⟩
  · rw [owV_yes h0 hv he]
    exact ⟨a', c', R, rfl, hRm, by rw [← hRm]; simp, hR, byt_map hRm he (headB_byt U)⟩
  · rw [owV_no hno]
    exact ⟨none, 0, [], rfl, rfl, rfl, RdR.nil _ _, fun p hp => by simp at hp⟩
theorem rsame_eq {K S : List P1} {V : List (List Int) × Int} (h1 : K.map P1.bs = V.1) (h2 : S.map P1.bs = V.1) (a b : Option Addr) (n ca cb : Nat) (hK : K.length = n) (hS : S.length = n) (hn : n ≤ 1000000) (bK : ∀ p ∈ K, Byt p.bs) (bS : ∀ p ∈ S, Byt p.bs) (w : World) (hR : RdR w a K) (hQ : RdR w b S) :
    Calls Tryd.prog 11 #[.slice a n ca, .slice b n cb] w fun r w' => r = .returned (.bool true) ∧ Below w.heap.size w w' := by
  have := rsame_law a b K S n n ca cb hK hS hn bK bS w hR hQ
  rwa [show eqB K S = true from decide_eq_true (h1.trans h2.symm)] at this
theorem rdV_len (L : List Int) : (rdV L).1.length ≤ 3 := by
  by_cases h : ∃ fs, VF fs ∧ L = encR fs
  · obtain ⟨fs, hv, he⟩ := h
    rw [rdV_yes hv he]; exact hv.2.1
  · rw [rdV_no fun fs hv e => h ⟨fs, hv, e⟩]; simp
theorem owV_len (U : List Int) : (owV U).1.length ≤ 3 := by
  by_cases h : ∃ fs, HeadT U ∧ VF fs ∧ headB U = encR fs
  · obtain ⟨fs, h0, hv, he⟩ := h
    rw [owV_yes h0 hv he]; exact hv.2.1
  · rw [owV_no fun fs hv h0 e => h ⟨fs, h0, hv, e⟩]; simp
theorem rdV_err (L : List Int) : 0 ≤ (rdV L).2 ∧ (rdV L).2 ≤ 4 := by
  unfold rdV
  split <;> simp
theorem owV_err (U : List Int) : 0 ≤ (owV U).2 ∧ (owV U).2 ≤ 4 := by
  unfold owV
  split <;> simp
theorem VFlen {R : List P1} {L : List Int} (h : R.map P1.bs = (rdV L).1) : ∀ p ∈ R, p.bs.length ≤ 24 := fun p hp => by
  have hm : p.bs ∈ (rdV L).1 := by rw [← h]; exact List.mem_map.2 ⟨p, hp, rfl⟩
  by_cases hx : ∃ fs, VF fs ∧ L = encR fs
  · obtain ⟨fs, hv, he⟩ := hx
    rw [rdV_yes hv he] at hm
    exact hv.2.2 _ hm
  · rw [rdV_no fun fs hv e => hx ⟨fs, hv, e⟩] at hm
    simp at hm
set_option maxRecDepth 100000 in
set_option maxHeartbeats 1000000 in
theorem reads_much (a b : Option Addr) (n m ca cb : Nat) (hn : n ≤ 140737488355328) (hm : m ≤ 140737488355328) (h : 9000 < n ∨ 2000 < m) (w : World) :
    Calls Tryd.prog 3 #[.slice a n ca, .slice b m cb] w fun r w' => r = .returned (.bool true) ∧ Below w.heap.size w w' := by
  have i0 : (n : Int) ≤ 140737488355328 := by omega
  have i1 : (m : Int) ≤ 140737488355328 := by omega
  by_cases h0 : 9000 < n
  · have j0 : (9000 : Int) < (n : Int) := by omega
    clear h
    go_enter Tryd.func3, Tryd.ntmps3
    go_wp2_with fail
    refine (known_law _).mono ?_; rintro r w' ⟨rfl, B⟩
    go_wp2_with fail
    go_ret
    exact ⟨rfl, B⟩
  · have j0 : ¬ (9000 : Int) < (n : Int) := by omega
    have j1 : (2000 : Int) < (m : Int) := by omega
    clear h
    go_enter Tryd.func3, Tryd.ntmps3
    go_wp2_with fail
    refine (known_law _).mono ?_; rintro r w' ⟨rfl, B⟩
    go_wp2_with fail
    go_ret
    exact ⟨rfl, B⟩
set_option maxRecDepth 100000 in
set_option maxHeartbeats 4000000 in
theorem reads_law (a b : Option Addr) (L U : List Int) (n m ca cb : Nat) (hL : L.length = n) (hm : U.length = m) (hB : Byt L) (hU : ∀ x ∈ U, 0 ≤ x ∧ x ≤ 18446744073709551615) (h9 : n ≤ 9000) (h2 : m ≤ 2000) (w : World) (hA : Ls .u8 w a ca L) (hW : Ls .u64 w b cb U) :
    Calls Tryd.prog 3 #[.slice a n ca, .slice b m cb] w fun r w' => r = .returned (.bool true) ∧ Below w.heap.size w w' := by
  have i0 : ¬ (9000 : Int) < (n : Int) := by omega
  have i1 : ¬ (2000 : Int) < (m : Int) := by omega
  have i2 : (n : Int) ≤ 9000 := by omega
  have i3 : (m : Int) ≤ 2000 := by omega
  have HA := Lib.hid hA
  have HW := Lib.hid hW
  have HL := Lib.hid hL
  have HM := Lib.hid hm
  have HB := Lib.hid hB
  have HU := Lib.hid hU
  clear hA hW hL hm hB hU
  obtain ⟨e1, he1⟩ : ∃ e, (rdV L).2 = e := ⟨_, rfl⟩
  obtain ⟨e2, he2⟩ : ∃ e, (owV U).2 = e := ⟨_, rfl⟩
  obtain ⟨q1, hq1⟩ : ∃ q, (rdV L).1.length = q := ⟨_, rfl⟩
  obtain ⟨q2, hq2⟩ : ∃ q, (owV U).1.length = q := ⟨_, rfl⟩
  have hl1 := rdV_len L
  have hl2 := owV_len U
  have hr1 := rdV_err L
  have hr2 := owV_err U
  rw [hq1] at hl1
  rw [hq2] at hl2
  rw [he1] at hr1
  rw [he2] at hr2
  have hl1i : (q1 : Int) ≤ 3 := by omega
  have C1 := Lib.hid (fun W x c (h : Ls .u8 W x c L) => (read_anyF x L n c HL.out (by omega) HB.out W h).mono fun r w' (p : RePF W.heap.size L r w' ∧ Below W.heap.size W w') => show RresF W.heap.size (rdV L) q1 e1 r w' ∧ Below W.heap.size W w' from ⟨by rw [← hq1, ← he1]; exact rresF_of HB.out p.1, p.2⟩)
  have C2 := Lib.hid (fun W x c (h : Ls .u8 W x c L) => (qread_any x L n c HL.out (by omega) HB.out W h).mono fun r w' (p : ReP L r w' ∧ Below W.heap.size W w') => show Rres (rdV L) q1 e1 r w' ∧ Below W.heap.size W w' from ⟨by rw [← hq1, ← he1]; exact rres_of HB.out p.1, p.2⟩)
  have C3 := Lib.hid (fun W x c (h : Ls .u64 W x c U) => (of_law x U m c HM.out (by omega) HU.out W h).mono fun r w' (p : OfP U r w' ∧ Below W.heap.size W w') => show Rres (owV U) q2 e2 r w' ∧ Below W.heap.size W w' from ⟨by rw [← hq2, ← he2]; exact rres_ow p.1, p.2⟩)
  have C4 := Lib.hid (fun W x c (h : Ls .u64 W x c U) => (qof_law x U m c HM.out (by omega) HU.out W h).mono fun r w' (p : OfP U r w' ∧ Below W.heap.size W w') => show Rres (owV U) q2 e2 r w' ∧ Below W.heap.size W w' from ⟨by rw [← hq2, ← he2]; exact rres_ow p.1, p.2⟩)
  have HQ1 := Lib.hid hq1
  have HQ2 := Lib.hid hq2
  clear he1 he2 hq1 hq2
  have hS : strOfNums (L ++ [119]) = strOfNums L ++ ⟨#[119]⟩ := by rw [str_append]; rfl
  have hsz : (strOfNums L).size = n := by rw [strOfNums_size]; exact HL.out
  have hK1 := Lib.hid (fun W (h : Ls .u8 W a ca L) => kc2 W a n ca L HL.out h)
  have hK2 := Lib.hid (fun W x c (h : Ls .u8 W x c (L ++ [119])) => kc2 W x (n + 1) c (L ++ [119]) (by rw [List.length_append, HL.out]; rfl) h)
  rw [hS] at hK2
  have hADD := Lib.hid (fun (W : World) => run_string_add (P := Tryd.prog) W (strOfNums L) ⟨#[119]⟩ (by rw [hsz]; omega) (by show ((1 : Nat) : Int) ≤ 8388608; omega))
  clear hS hsz
  generalize strOfNums L = sL at *
  go_enter Tryd.func3, Tryd.ntmps3
  go_wp2_with (at_builtin; refine append_ls eltB rfl (.const (.slice none 0 0)) (.tmp 25) rfl w.heap.size (.slice none 0 0) 0 [] rfl (World.ownsRow_nil _ _ _ _) a ca n L HL.out rfl HA.out (by omega) (Nat.le_refl _) ?_)
  intro v1 w1 hown1 hg1
  have B1 : Below w.heap.size w w1 := (Below.refl _ _).grown hg1 (Nat.le_refl _) (fun j hj => by cases hj)
  have HO1 := Lib.hid hown1
  clear hown1 hg1
  go_wp2_with (at_builtin; refine append_ls eltB rfl (.tmp 26) (.tmp 27) rfl w.heap.size _ n (iv .u8 L) rfl (HO1.out.alloc _) _ _ 1 [119] rfl rfl (ls_new .u8 _ [119] _ _ _ rfl 1 rfl) (by omega) (by have := B1.size; simp; omega) ?_)
  intro v2 w2 hown2 hg2
  rw [← iv_append] at hown2
  have B2 : Below w.heap.size w w2 := (B1.alloc B1.size (.cells #[.int .u8 119] 5)).grown hg2 (by have := B1.size; simp; omega) (fun j hj => (HO1.out.lt j hj).1)
  obtain ⟨oa, oc, rfl, l2, _⟩ := own_ls hown2 (show (L ++ [119]).length = n + 1 by rw [List.length_append, HL.out]; rfl)
  obtain ⟨a3, c3, s3, l3⟩ := l2.hi eltB (n + 1) n (by rw [List.length_append, HL.out]; rfl) (by omega)
  rw [List.take_left' HL.out] at l3
  have HB2 := Lib.hid B2
  have L2 := Lib.hid l2
  have L3 := Lib.hid l3
  have s4 := s3
  push_cast at s4
  clear hown2 hg2 HO1 B1 B2 l2 l3
  go_wp2_with fail
  refine (C1.out _ _ _ L3.out).mono ?_; rintro r w3 ⟨⟨ra, rc, R, rfl, r1, r2, r3, r4, r5⟩, B3⟩
  have R1 := Lib.hid r1
  have R2 := Lib.hid r2
  have R3 := Lib.hid r3
  have R4 := Lib.hid r4
  have R5 := Lib.hid r5
  have HB3 := Lib.hid B3
  have WB3 := Lib.hid (step_below HB2.out B3)
  clear r1 r2 r3 r4 r5 B3 C1 s3 s4
  go_wp2_with fail
  refine (C2.out _ _ _ (HA.out.below WB3.out)).mono ?_; rintro r w4 ⟨⟨sa, sc, S, rfl, r1, r2, r3, r5⟩, B4⟩
  have S1 := Lib.hid r1
  have S2 := Lib.hid r2
  have S3 := Lib.hid r3
  have S5 := Lib.hid r5
  have HB4 := Lib.hid (step_below HB3.out B4)
  have WB4 := Lib.hid (step_below WB3.out B4)
  replace R3 := Lib.hid (R3.out.below B4)
  replace R4 := Lib.hid (R4.out.below B4)
  clear r1 r2 r3 r5 B4 C2 HB3 WB3
  go_wp2_with fail
  refine (C3.out _ _ _ (HW.out.below WB4.out)).mono ?_; rintro r w5 ⟨⟨ta, tc, T, rfl, r1, r2, r3, r5⟩, B5⟩
  have T1 := Lib.hid r1
  have T2 := Lib.hid r2
  have T3 := Lib.hid r3
  have T5 := Lib.hid r5
  have HB5 := Lib.hid (step_below HB4.out B5)
  have WB5 := Lib.hid (step_below WB4.out B5)
  replace R3 := Lib.hid (R3.out.below B5)
  replace R4 := Lib.hid (R4.out.below B5)
  replace S3 := Lib.hid (S3.out.below B5)
  clear r1 r2 r3 r5 B5 C3 HB4 WB4
  go_wp2_with fail
  refine (C4.out _ _ _ (HW.out.below WB5.out)).mono ?_; rintro r w6 ⟨⟨ua, uc, V, rfl, r1, r2, r3, r5⟩, B6⟩
  have V1 := Lib.hid r1
  have V2 := Lib.hid r2
  have V3 := Lib.hid r3
  have V5 := Lib.hid r5
  have HB6 := Lib.hid (step_below HB5.out B6)
  have WB6 := Lib.hid (step_below WB5.out B6)
  replace R3 := Lib.hid (R3.out.below B6)
  replace R4 := Lib.hid (R4.out.below B6)
  replace S3 := Lib.hid (S3.out.below B6)
  replace T3 := Lib.hid (T3.out.below B6)
  clear r1 r2 r3 r5 B6 C4 HB5 WB5
  go_wp2_with fail
  refine (rsame_eq R1.out S1.out ra sa q1 rc sc R2.out S2.out (by omega) R5.out S5.out _ R3.out S3.out).mono ?_; rintro r w7 ⟨rfl, B7⟩
  have HB7 := Lib.hid (step_below HB6.out B7)
  have WB7 := Lib.hid (step_below WB6.out B7)
  replace R3 := Lib.hid (R3.out.below B7)
  replace R4 := Lib.hid (R4.out.below B7)
  replace T3 := Lib.hid (T3.out.below B7)
  replace V3 := Lib.hid (V3.out.below B7)
  clear B7 HB6 WB6 S3
  go_wp2_with (go_at_call 12; refine (num_law _ _).mono ?_; rintro r w' ⟨rfl, rfl⟩)
  refine (rsame_eq T1.out V1.out ta ua q2 tc uc T2.out V2.out (by omega) T5.out V5.out _ T3.out V3.out).mono ?_; rintro r w8 ⟨rfl, B8⟩
  have HB8 := Lib.hid (step_below HB7.out B8)
  have WB8 := Lib.hid (step_below WB7.out B8)
  replace R4 := Lib.hid (R4.out.below B8)
  clear B8 HB7 WB7 T3 V3 R3
  go_wp2_with (go_at_call 12; refine (num_law _ _).mono ?_; rintro r w' ⟨rfl, rfl⟩)
  go_loopw [14] (fun i wr => ∃ k : Nat, k ≤ q1 ∧ i = .int .i64 (k : Int) ∧ FlipI w2.heap.size ra R wr ∧ Below w2.heap.size w2 wr) (fun i _ => q1 - (intOf i).toNat)
  case atStart => exact ⟨0, by omega, rfl, R4.out, HB8.out⟩
  case round =>
    clear R4 HB8
    obtain ⟨k, hk, rfl, hF, B⟩ := hrel
    by_cases hlt : k < q1
    · have hkl : (k : Int) < (q1 : Int) := by omega
      obtain ⟨p, hp⟩ : ∃ p, R[k]? = some p := ⟨_, List.getElem?_eq_getElem (by rw [R2.out]; exact hlt)⟩
      have hpl := Lib.hid (show p.bs.length ≤ 24 by
        have := VFlen R1.out _ (List.mem_of_getElem? hp)
        exact this)
      obtain ⟨t, ht⟩ : ∃ t, p.bs.length = t := ⟨_, rfl⟩
      have hti : (t : Int) ≤ 24 := by have := hpl.out; omega
      have HT := Lib.hid ht
      have HP := Lib.hid hp
      have HF := Lib.hid hF
      have BB := Lib.hid B
      clear ht hp hF B
      go_wp2_with fail
      go_loopw [15] (fun i wr => ∃ j : Nat, j ≤ t ∧ i = .int .i64 (j : Int) ∧ FlipI w2.heap.size ra R wr ∧ Below w2.heap.size w2 wr) (fun i _ => t - (intOf i).toNat)
      case atStart => exact ⟨0, by omega, rfl, HF.out, BB.out⟩
      case round =>
        clear HF BB
        obtain ⟨j, hj, rfl, hF, B⟩ := hrel
        obtain ⟨⟨b1, o1, ea, c1⟩, hx⟩ := hF k p HP.out
        subst ea
        have c2 := c1
        rw [P1.v, HT.out] at c2
        clear c1
        have HF := Lib.hid hF
        have BB := Lib.hid B
        by_cases hjt : j < t
        · have hjl : (j : Int) < (t : Int) := by omega
          obtain ⟨g, x, eg, hg, c3, f3⟩ := hx j (by rw [HT.out]; exact hjt)
          rw [eg] at c2
          have hF2 := Lib.hid (hF.set c3 102)
          have B2 := Lib.hid (B.setCell (p := ⟨g, j, none⟩) hg (.int .u8 102))
          clear hF B hx eg
          go_wp2_with fail
          go_roundw
          case rel => exact ⟨j + 1, by omega, by go_num, hF2.out, B2.out⟩
          case measure => simp [intOf]; omega
        · have hjl : ¬ (j : Int) < (t : Int) := by omega
          clear hF B hx
          go_wp2_with fail
          go_roundw
          case rel => exact ⟨k + 1, by omega, by go_num, HF.out, BB.out⟩
          case measure => simp [intOf]; omega
    · have hkl : ¬ (k : Int) < (q1 : Int) := by omega
      have WB := Lib.hid (step_below HB2.out B)
      have k1 := hK1.out _ (HA.out.below WB.out)
      have k2 := hK2.out _ _ _ (L2.out.below B)
      have k3 := hADD.out
      push_cast at k2
      clear hF B
      go_wp2_with fail
      refine (known_law _).mono ?_; rintro r w9 ⟨rfl, B9⟩
      have HB9 := Lib.hid (step_below WB.out B9)
      clear k1 k2 k3 B9
      go_wp2_with fail
      go_ret
      exact ⟨rfl, HB9.out⟩
end Go.Proofs.YtkgcbhpgkcfkhaaDoor
