/- Entries taken apart, by contracts. -/
import Derived.Test.YtkgcbhpgkcfkhaaByt
import Derived.Lib.SliceRun
namespace Go.Proofs.Ytkgcbhpgkcfkhaa
open Go.ChangeShapes Go.WideShapes Go.ChangeAt Go.RowKit
set_option linter.unusedVariables false
set_option linter.unusedSimpArgs false

set_option maxRecDepth 100000 in
set_option maxHeartbeats 1000000 in
theorem clone_law (a : Option Addr) (L : List Int) (n cap : Nat) (hL : L.length = n) (hn : n ≤ 1000000) (w : World) (hA : Ls .u8 w a cap L) :
    Calls Try.prog 65 #[.slice a n cap] w fun r w' => ∃ a' c', r = .returned (.slice a' n c') ∧ Ls .u8 w' a' c' L ∧ Below w.heap.size w w' := by
  have HA := Lib.hid hA
  have HL := Lib.hid hL
  rcases a with _ | a
  · obtain ⟨rfl, rfl⟩ := hA.nl rfl
    simp only [List.length_nil] at hL
    subst hL
    have hsn : ∀ W, (binOp .eql 24 (.slice none 0 0) (.slice none 0 0)).run Try.prog W = .ok (.bool true) W := fun W => Lib.run_eql_slice_nil W 24 5 none 0 0 0 0 Try.underlying24
    clear hA
    go_enter Try.func65, Try.ntmps65
    go_wp2_with fail
    go_ret
    exact ⟨none, 0, rfl, Ls.nul _ _, Below.refl _ _⟩
  · clear hA hL
    have hsn : ∀ W, (binOp .eql 24 (.slice (some a) n cap) (.slice none 0 0)).run Try.prog W = .ok (.bool false) W := fun W => Lib.run_eql_slice_nil W 24 5 (some a) n cap 0 0 Try.underlying24
    go_enter Try.func65, Try.ntmps65
    go_wp2_with (at_builtin; refine append_ls eltB rfl (.tmp 5) (.tmp 6) rfl w.heap.size _ 0 [] rfl (World.ownsRow_lit w #[] 0 (Nat.le_refl _) (by decide) rfl) _ _ n L HL.out rfl (HA.out.below ((Below.refl _ _).alloc (Nat.le_refl _) _)) (by omega) (by simp) ?_)
    intro v2 w2 hown2 hgrow2
    have B2 := ((Below.refl w.heap.size w).alloc (Nat.le_refl _) _).grown hgrow2 (by simp) (fun j hj => by simp [Value.ownBlock] at hj; omega)
    obtain ⟨a', c', rfl, l', _⟩ := own_ls hown2 HL.out
    clear hown2 hgrow2
    go_wp2_with fail
    go_ret
    exact ⟨a', c', rfl, l', B2⟩

def splitL : List Int → List Int → Option (List Int × List Int)
  | _, [] => none
  | _, [_] => none
  | f, x :: y :: s => if x = 0 then (if y = 1 then (if f.length ≤ 24 ∧ mayK s.length = true then some (f, s) else none) else if y = 255 then splitL (f ++ [0]) s else none) else splitL (f ++ [x]) (y :: s)
def spV (o : Option (List Int × List Int)) : List Int × List Int × Int := match o with
  | some (f, k) => (f, k, 0)
  | none => ([], [], 4)
def splitV (L : List Int) : List Int × List Int × Int := spV (splitL [] L)

set_option maxRecDepth 100000 in
set_option maxHeartbeats 1000000 in
theorem whole_law (a b : Option Addr) (Lf Lk : List Int) (n m ca cb : Nat) (hf : Lf.length = n) (hk : Lk.length = m) (hm : m ≤ 1000000) (F K : List Int) (e : Int) (hv : spV (if Lf.length ≤ 24 ∧ mayK Lk.length = true then some (Lf, Lk) else none) = (F, K, e)) (w : World) (hA : Ls .u8 w a ca Lf) (hB : Ls .u8 w b cb Lk) :
    Calls Try.prog 73 #[.slice a n ca, .slice b m cb] w fun r w' => ∃ a1 c1 a2 c2, r = .returned (.tuple #[.slice a1 F.length c1, .slice a2 K.length c2, .int .i64 e]) ∧ Ls .u8 w' a1 c1 F ∧ Ls .u8 w' a2 c2 K ∧ Below w.heap.size w w' := by
  have HA := Lib.hid hA
  have HB := Lib.hid hB
  have HKL := Lib.hid hk
  have H1 := mayfield_law a n ca w
  have H2 := maykey_law b m cb w
  rw [hf, hk] at hv
  by_cases h1 : n ≤ 24
  · rw [decide_eq_true h1] at H1
    cases h2 : mayK m
    · rw [h2] at hv H2
      rw [if_neg (by simp)] at hv
      simp only [spV, Prod.mk.injEq] at hv
      obtain ⟨rfl, rfl, rfl⟩ := hv
      clear hA hB hf hk h2
      go_enter Try.func73, Try.ntmps73
      go_wp2_with fail
      refine H1.mono ?_; rintro e w' ⟨rfl, rfl⟩
      go_wp2_with fail
      refine H2.mono ?_; rintro e w' ⟨rfl, rfl⟩
      go_wp2_with fail
      go_ret3
      exact ⟨none, 0, none, 0, rfl, Ls.nul _ _, Ls.nul _ _, Below.refl _ _⟩
    · rw [h2] at hv H2
      rw [if_pos ⟨h1, rfl⟩] at hv
      simp only [spV, Prod.mk.injEq] at hv
      obtain ⟨rfl, rfl, rfl⟩ := hv
      have HF := Lib.hid hf
      clear hA hB hf hk h2
      go_enter Try.func73, Try.ntmps73
      go_wp2_with fail
      refine H1.mono ?_; rintro e w' ⟨rfl, rfl⟩
      go_wp2_with fail
      refine H2.mono ?_; rintro e w' ⟨rfl, rfl⟩
      go_wp2_with fail
      refine (clone_law b Lk m cb HKL.out hm _ HB.out).mono ?_; rintro e w' ⟨a', c', rfl, l', B⟩
      go_wp2_with fail
      go_ret3
      exact ⟨a, ca, a', c', by rw [HF.out, HKL.out]; rfl, HA.out.below B, l', B⟩
  · rw [decide_eq_false h1] at H1
    rw [if_neg (fun h => h1 h.1)] at hv
    simp only [spV, Prod.mk.injEq] at hv
    obtain ⟨rfl, rfl, rfl⟩ := hv
    clear hA hB hf hk
    go_enter Try.func73, Try.ntmps73
    go_wp2_with fail
    refine H1.mono ?_; rintro e w' ⟨rfl, rfl⟩
    go_wp2_with fail
    go_ret3
    exact ⟨none, 0, none, 0, rfl, Ls.nul _ _, Ls.nul _ _, Below.refl _ _⟩
theorem drop_cons (L : List Int) (k : Nat) (h : k < L.length) : L.drop k = L.getD k 0 :: L.drop (k + 1) := by
  rw [List.drop_eq_getElem_cons h]
  congr 1
  simp [List.getD, List.getElem?_eq_getElem h]
theorem splitL_one (f : List Int) (L : List Int) (h : L.length ≤ 1) : splitL f L = none := by
  match L, h with
  | [], _ => rfl
  | [_], _ => rfl
  | _ :: _ :: _, h => simp at h
theorem splitL_go (f : List Int) (x : Int) (r : List Int) (hx : x ≠ 0) : splitL f (x :: r) = splitL (f ++ [x]) r := by
  cases r with
  | nil => rfl
  | cons y s => rw [splitL, if_neg hx]

set_option maxRecDepth 100000 in
set_option maxHeartbeats 4000000 in
theorem split_law (a : Option Addr) (L : List Int) (n cap : Nat) (hL : L.length = n) (hn : n ≤ 1000000) (F K : List Int) (er : Int) (hv : splitV L = (F, K, er)) (w : World) (hA : Ls .u8 w a cap L) :
    Calls Try.prog 27 #[.slice a n cap] w fun r w' => ∃ a1 c1 a2 c2, r = .returned (.tuple #[.slice a1 F.length c1, .slice a2 K.length c2, .int .i64 er]) ∧ Ls .u8 w' a1 c1 F ∧ Ls .u8 w' a2 c2 K ∧ Below w.heap.size w w' := by
  have HA := Lib.hid hA
  have HL := Lib.hid hL
  have HV := Lib.hid hv
  have hbad : splitL [] L = none → F = [] ∧ K = [] ∧ er = 4 := fun h => by
    rw [splitV, h] at hv
    simp only [spV, Prod.mk.injEq] at hv
    exact ⟨hv.1.symm, hv.2.1.symm, hv.2.2.symm⟩
  have HB := Lib.hid hbad
  clear hA hL hv hbad
  go_enter Try.func27, Try.ntmps27
  go_wp2_with fail
  go_loopw [2, 5] (fun v i wr => ∃ (k : Nat) (f : List Int), k ≤ n ∧ i = .int .i64 k ∧ f.length ≤ k ∧ wr.ownsRow w.heap.size 5 1 v f.length (iv .u8 f) ∧ splitL [] L = splitL f (L.drop k) ∧ Below w.heap.size w wr) (fun _ i _ => n - (intOf i).toNat)
  case atStart => exact ⟨0, [], by omega, rfl, by simp, World.ownsRow_nil _ _ _ _, rfl, Below.refl _ _⟩
  case round =>
    obtain ⟨k, f, hk, rfl, hfk, hown, hsp, B⟩ := hrel
    obtain ⟨m, hm⟩ : ∃ m, f.length = m := ⟨_, rfl⟩
    rw [hm] at hown hfk
    have HSP := Lib.hid hsp
    have HM := Lib.hid hm
    have HOWN := Lib.hid hown
    have HFK := Lib.hid hfk
    clear hsp hm hown hfk
    by_cases hlt : k < n
    · have hkl : (k : Int) < (n : Int) := by omega
      have hkL : k < L.length := by rw [HL.out]; exact hlt
      have hdc := drop_cons L k hkL
      obtain ⟨b1, o1, e1, c1⟩ := (HA.out.below B).get k hkL
      subst e1
      obtain ⟨x, hx⟩ : ∃ x, L.getD k 0 = x := ⟨_, rfl⟩
      rw [hx] at c1 hdc
      have HDC := Lib.hid hdc
      have hs1 := B.size
      clear hx hdc
      by_cases q : x = 0
      · have t1 : (x == 0) = true := by rw [q]; rfl
        have HQ := Lib.hid q
        clear q
        by_cases hend : k + 1 = n
        · have t2 : ((k : Int) + 1 == (n : Int)) = true := by rw [beq_iff_eq]; omega
          have hr := HB.out (by rw [HSP.out]; exact splitL_one _ _ (by rw [List.length_drop]; have := HL.out; omega))
          have HR := Lib.hid hr
          clear hr hend
          go_wp2_with fail
          go_ret3
          obtain ⟨rfl, rfl, rfl⟩ := HR.out
          exact ⟨none, 0, none, 0, rfl, Ls.nul _ _, Ls.nul _ _, B⟩
        · have t2 : ((k : Int) + 1 == (n : Int)) = false := by rw [beq_eq_false_iff_ne]; omega
          have hkl2 : (k : Int) + 1 < (n : Int) := by omega
          have hkL2 : k + 1 < L.length := by rw [HL.out]; omega
          have hdc2 := drop_cons L (k + 1) hkL2
          obtain ⟨b2, o2, e2, c2⟩ := (HA.out.below B).get (k + 1) hkL2
          cases e2
          obtain ⟨y, hy⟩ : ∃ y, L.getD (k + 1) 0 = y := ⟨_, rfl⟩
          rw [hy] at c2 hdc2
          have HDC2 := Lib.hid hdc2
          have hsp2 : splitL [] L = if y = 1 then (if f.length ≤ 24 ∧ mayK (L.drop (k + 1 + 1)).length = true then some (f, L.drop (k + 1 + 1)) else none) else if y = 255 then splitL (f ++ [0]) (L.drop (k + 1 + 1)) else none := by
            rw [HSP.out, HDC.out, hdc2, splitL, if_pos HQ.out]
          have HSP2 := Lib.hid hsp2
          have hend2 := Lib.hid hend
          clear hy hdc2 hsp2 hend
          by_cases q1 : y = 1
          · have t3 : (y == 1) = true := by rw [q1]; rfl
            have hsp3 := HSP2.out
            rw [if_pos q1] at hsp3
            obtain ⟨a', c', s', l'⟩ := HA.out.lo eltB n (k + 2) HL.out (by omega)
            obtain ⟨a1, c1', hsl, l1, _⟩ := own_ls HOWN.out HM.out
            have s2 : ∀ W', (Instr.slice 24 (.slice (some ⟨b1, o1, none⟩) n cap) (some (.int .i64 ((k : Int) + 1 + 1))) none none).run Try.prog W' = .ok (.slice a' (n - (k + 2)) c') W' := by
              intro W'
              have := s' W'
              rwa [show (((k + 2 : Nat)) : Int) = (k : Int) + 1 + 1 by omega] at this
            have hv2 := HV.out
            rw [splitV, hsp3] at hv2
            have hdl : (L.drop (k + 1 + 1)).length = n - (k + 2) := by rw [List.length_drop, HL.out]
            have HW := Lib.hid (fun W (b : Below wr.heap.size wr W) => whole_law a1 a' f (L.drop (k + 1 + 1)) m (n - (k + 2)) c1' c' HM.out hdl (by omega) F K er hv2 W (l1.below b) (l'.below (B.trans (b.mono B.size))))
            subst hsl
            clear hsp3 s' l' l1 hv2 hdl HOWN
            go_wp2_with fail
            refine (HW.out _ (Below.refl _ _)).mono ?_; rintro e w3 ⟨r1, r2, r3, r4, rfl, g1, g2, B3⟩
            obtain ⟨fl, hfl⟩ : ∃ fl, F.length = fl := ⟨_, rfl⟩
            obtain ⟨kl, hkl'⟩ : ∃ kl, K.length = kl := ⟨_, rfl⟩
            rw [hfl, hkl']
            have HFL := Lib.hid hfl
            have HKL := Lib.hid hkl'
            clear hfl hkl'
            go_wp2_with fail
            go_ret3
            exact ⟨r1, r2, r3, r4, by rw [HFL.out, HKL.out]; rfl, g1, g2, step_below B B3⟩
          · have t3 : (y == 1) = false := by simpa using q1
            have hsp3 := HSP2.out
            rw [if_neg q1] at hsp3
            by_cases q2 : y = 255
            · have t4 : (y != 255) = false := by simpa using q2
              rw [if_pos q2] at hsp3
              have HSP3 := Lib.hid hsp3
              have Q2 := Lib.hid q2
              clear hsp3 q1 q2
              go_wp2_with (at_builtin; refine append_ls eltB rfl (.tmp 47) (.tmp 49) rfl w.heap.size _ m (iv .u8 f) rfl (HOWN.out.alloc _) _ _ 1 [x] rfl rfl (ls_new .u8 _ [x] _ _ _ rfl 1 rfl) (by have := HFK.out; omega) (by simp; omega) ?_)
              intro v2 w3 hown3 hgrow3
              rw [← iv_append] at hown3
              have B4 := (B.alloc hs1 _).grown hgrow3 (by simp; omega) (fun j hj => (HOWN.out.lt j hj).1)
              have HOWN3 := Lib.hid hown3
              clear hown3 hgrow3
              go_wp2_with fail
              go_roundw
              case rel => exact ⟨k + 2, f ++ [x], by have := hend2.out; omega, by go_num, by rw [List.length_append, HM.out]; have := HFK.out; simp; omega, by rw [List.length_append, HM.out]; exact HOWN3.out, by rw [HSP3.out, HQ.out], B4⟩
              case measure => simp [intOf]; omega
            · have t4 : (y != 255) = true := by simpa using q2
              rw [if_neg q2] at hsp3
              have hr := HB.out hsp3
              have HR := Lib.hid hr
              clear hr hsp3 q1 q2
              go_wp2_with fail
              go_ret3
              obtain ⟨rfl, rfl, rfl⟩ := HR.out
              exact ⟨none, 0, none, 0, rfl, Ls.nul _ _, Ls.nul _ _, B⟩
      · have t1 : (x == 0) = false := by simpa using q
        have hsp2 : splitL [] L = splitL (f ++ [x]) (L.drop (k + 1)) := by rw [HSP.out, HDC.out, splitL_go _ _ _ q]
        have HSP2 := Lib.hid hsp2
        clear q hsp2
        go_wp2_with (at_builtin; refine append_ls eltB rfl (.tmp 47) (.tmp 49) rfl w.heap.size _ m (iv .u8 f) rfl (HOWN.out.alloc _) _ _ 1 [x] rfl rfl (ls_new .u8 _ [x] _ _ _ rfl 1 rfl) (by have := HFK.out; omega) (by simp; omega) ?_)
        intro v2 w3 hown3 hgrow3
        rw [← iv_append] at hown3
        have B4 := (B.alloc hs1 _).grown hgrow3 (by simp; omega) (fun j hj => (HOWN.out.lt j hj).1)
        have HOWN3 := Lib.hid hown3
        clear hown3 hgrow3
        go_wp2_with fail
        go_roundw
        case rel => exact ⟨k + 1, f ++ [x], by omega, by go_num, by rw [List.length_append, HM.out]; have := HFK.out; simp; omega, by rw [List.length_append, HM.out]; exact HOWN3.out, HSP2.out, B4⟩
        case measure => simp [intOf]; omega
    · have hkl : ¬ (k : Int) < (n : Int) := by omega
      have hr := HB.out (by rw [HSP.out]; exact splitL_one _ _ (by rw [List.length_drop]; have := HL.out; omega))
      have HR := Lib.hid hr
      clear hr
      go_wp2_with fail
      go_ret3
      obtain ⟨rfl, rfl, rfl⟩ := HR.out
      exact ⟨none, 0, none, 0, rfl, Ls.nul _ _, Ls.nul _ _, B⟩
end Go.Proofs.Ytkgcbhpgkcfkhaa
