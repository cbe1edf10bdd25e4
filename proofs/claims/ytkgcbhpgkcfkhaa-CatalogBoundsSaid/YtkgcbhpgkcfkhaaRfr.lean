/- The reference's fronts and entries, by contracts. -/
import Derived.Test.YtkgcbhpgkcfkhaaSpl
namespace Go.Proofs.Ytkgcbhpgkcfkhaa
open Go.ChangeShapes Go.WideShapes Go.ChangeAt Go.RowKit
set_option linter.unusedVariables false
set_option linter.unusedSimpArgs false

theorem rmaykey_law (a : Option Addr) (n cap : Nat) (w : World) : Calls Try.prog 21 #[.slice a n cap] w fun r w' => r = .returned (.bool (mayK n)) ∧ w = w' := by
  unfold mayK
  rcases (show n < 1 ∨ (1 ≤ n ∧ n ≤ 32) ∨ (1 ≤ n ∧ ¬ n ≤ 32) by omega) with h | ⟨h1, h2⟩ | ⟨h1, h2⟩
  · rw [decide_eq_false (by omega)]
    have hi : ¬ (1 : Int) ≤ (n : Int) := by omega
    go_enter Try.func21, Try.ntmps21
    go_wp2
    go_ret
    exact ⟨rfl, rfl⟩
  · rw [decide_eq_true (by omega)]
    have hi : (1 : Int) ≤ (n : Int) := by omega
    have hj : (n : Int) ≤ 32 := by omega
    go_enter Try.func21, Try.ntmps21
    go_wp2
    go_ret
    exact ⟨rfl, rfl⟩
  · rw [decide_eq_false (by omega)]
    have hi : (1 : Int) ≤ (n : Int) := by omega
    have hj : ¬ (n : Int) ≤ 32 := by omega
    go_enter Try.func21, Try.ntmps21
    go_wp2
    go_ret
    exact ⟨rfl, rfl⟩

set_option maxRecDepth 100000 in
set_option maxHeartbeats 2000000 in
theorem rfront_own (a : Option Addr) (L : List Int) (n cap : Nat) (hL : L.length = n) (hn : n ≤ 300000) (w : World) (hR : Ls .u8 w a cap L) :
    Calls Try.prog 31 #[.slice a n cap] w fun r w' => ∃ v, r = .returned v ∧ w'.ownsRow w.heap.size 5 1 v (frontL L).length (iv .u8 (frontL L)) ∧ Below w.heap.size w w' := by
  have HR := Lib.hid hR
  have HL := Lib.hid hL
  clear hR hL
  go_enter Try.func31, Try.ntmps31
  go_wp2_with fail
  go_loopw [3, 4] (fun v i wr => ∃ k : Nat, k ≤ n ∧ i = .int .i64 k ∧ wr.ownsRow w.heap.size 5 1 v (frontL (L.take k)).length (iv .u8 (frontL (L.take k))) ∧ Below w.heap.size w wr) (fun _ i _ => n - (intOf i).toNat)
  case atStart => exact ⟨0, by omega, rfl, World.ownsRow_nil _ _ _ _, Below.refl _ _⟩
  case round =>
    obtain ⟨k, hk, rfl, hown, B⟩ := hrel
    by_cases hlt : k < n
    · have hkl : (k : Int) < (n : Int) := by omega
      have hkL : k < L.length := by rw [HL.out]; exact hlt
      obtain ⟨b1, o1, e1, c1⟩ := (HR.out.below B).get k hkL
      subst e1
      have hs1 := B.size
      have hts := take_succ L k hkL
      have hfl := frontL_len (L.take k)
      rw [List.length_take] at hfl
      obtain ⟨x, hx⟩ : ∃ x, L.getD k 0 = x := ⟨_, rfl⟩
      rw [hx] at hts c1
      obtain ⟨F, hF⟩ : ∃ F, frontL (L.take k) = F := ⟨_, rfl⟩
      have hF2 : frontL (L.take (k + 1)) = F ++ esc x := by rw [hts, frontL_append, hF, frontL_one]
      rw [hF] at hown hfl
      obtain ⟨m, hm⟩ : ∃ m, F.length = m := ⟨_, rfl⟩
      rw [hm] at hown hfl
      have HF2 := Lib.hid hF2
      have HM := Lib.hid hm
      have hm48 := Lib.hid (show m ≤ 600000 by omega)
      have HOWN := Lib.hid hown
      have hbl := World.block_lt_of_cell? wr _ c1
      clear hts hx hF hF2 hm hfl hown
      have HLR := Lib.hid (fun W (b : Below w.heap.size wr W) => (show W.cell? ⟨b1, o1 + k, none⟩ = some (.int .u8 x) from by
        obtain ⟨b2, o2, e2, c2⟩ := (HR.out.below (B.trans b)).get k hkL
        cases e2
        obtain ⟨b3, o3, e3, c3⟩ := (HR.out.below B).get k hkL
        cases e3
        rw [c3] at c1
        rw [c2]
        exact c1))
      by_cases q : x = 0
      · have t1 : (x == 0) = true := by rw [q]; rfl
        have HQ := Lib.hid (show esc x = [x] ++ [255] by rw [q]; rfl)
        clear q
        go_wp2_with (at_builtin; refine append_ls eltB rfl (.tmp 11) (.tmp 16) rfl w.heap.size _ m (iv .u8 F) rfl (HOWN.out.alloc _) _ _ 1 [x] rfl rfl (ls_new .u8 _ [x] _ _ _ rfl 1 rfl) (by have := hm48.out; omega) (by simp; omega) ?_)
        intro v2 w2 hown2 hgrow2
        rw [← iv_append] at hown2
        have b2 : Below w.heap.size wr w2 := ((Below.refl _ wr).alloc hs1 _).grown hgrow2 (by simp; omega) (fun j hj => (HOWN.out.lt j hj).1)
        have B2 := B.trans b2
        have c2 := HLR.out _ b2
        have hs2 := B2.size
        have HOWN2 := Lib.hid hown2
        clear hown2 hgrow2 c1
        go_wp2_with (at_builtin; refine append_ls eltB rfl (.tmp 23) (.tmp 24) rfl w.heap.size v2 (m + 1) (iv .u8 (F ++ [x])) rfl (HOWN2.out.alloc _) _ _ 1 [255] rfl rfl (ls_new .u8 _ [255] _ _ _ rfl 1 rfl) (by have := hm48.out; omega) (by simp; omega) ?_)
        intro v3 w3 hown3 hgrow3
        rw [← iv_append] at hown3
        have B3 := (B2.alloc hs2 _).grown hgrow3 (by simp; omega) (fun j hj => (HOWN2.out.lt j hj).1)
        have HOWN3 := Lib.hid hown3
        clear hown3 hgrow3
        go_wp2_with fail
        go_roundw
        case rel => exact ⟨k + 1, by omega, by go_num, by rw [HF2.out, HQ.out, ← List.append_assoc, List.length_append, List.length_append, HM.out]; exact HOWN3.out, B3⟩
        case measure => simp [intOf]; omega
      · have t1 : (x == 0) = false := by simpa using q
        have HQ := Lib.hid (show esc x = [x] by rw [esc, if_neg q])
        clear q
        go_wp2_with (at_builtin; refine append_ls eltB rfl (.tmp 11) (.tmp 16) rfl w.heap.size _ m (iv .u8 F) rfl (HOWN.out.alloc _) _ _ 1 [x] rfl rfl (ls_new .u8 _ [x] _ _ _ rfl 1 rfl) (by have := hm48.out; omega) (by simp; omega) ?_)
        intro v2 w2 hown2 hgrow2
        rw [← iv_append] at hown2
        have b2 : Below w.heap.size wr w2 := ((Below.refl _ wr).alloc hs1 _).grown hgrow2 (by simp; omega) (fun j hj => (HOWN.out.lt j hj).1)
        have B2 := B.trans b2
        have c2 := HLR.out _ b2
        have HOWN2 := Lib.hid hown2
        clear hown2 hgrow2 c1
        go_wp2_with fail
        go_roundw
        case rel => exact ⟨k + 1, by omega, by go_num, by rw [HF2.out, HQ.out, List.length_append, HM.out]; exact HOWN2.out, B2⟩
        case measure => simp [intOf]; omega
    · have hkl : ¬ (k : Int) < (n : Int) := by omega
      have e : k = n := by omega
      subst e
      rw [List.take_of_length_le (by rw [HL.out]; exact Nat.le_refl _)] at hown
      have HOWN := Lib.hid hown
      clear hown
      go_wp2_with fail
      go_ret
      exact ⟨_, rfl, HOWN.out, B⟩
theorem rfront_law (a : Option Addr) (L : List Int) (n cap : Nat) (hL : L.length = n) (hn : n ≤ 300000) (w : World) (hR : Ls .u8 w a cap L) :
    Calls Try.prog 31 #[.slice a n cap] w fun r w' => ∃ a' c', r = .returned (.slice a' (frontL L).length c') ∧ Ls .u8 w' a' c' (frontL L) ∧ Below w.heap.size w w' :=
  (rfront_own a L n cap hL hn w hR).mono fun r w' ⟨v, h1, h2, h3⟩ => by
    obtain ⟨a', c', rfl, l', _⟩ := own_ls h2 rfl
    exact ⟨a', c', h1, l', h3⟩
set_option maxRecDepth 100000 in
set_option maxHeartbeats 2000000 in
theorem rentry_law (a b : Option Addr) (L K : List Int) (n m ca cb : Nat) (hL : L.length = n) (hK : K.length = m) (hn : n ≤ 300000) (hm : m ≤ 300000) (w : World) (hA : Ls .u8 w a ca L) (hB : Ls .u8 w b cb K) :
    Calls Try.prog 32 #[.slice a n ca, .slice b m cb] w fun r w' => ∃ a' c', r = .returned (.slice a' (entryL L K).length c') ∧ Ls .u8 w' a' c' (entryL L K) ∧ Below w.heap.size w w' := by
  have h := rfront_own a L n ca hL hn w hA
  have hfl := frontL_len L
  have hE : entryL L K = frontL L ++ [0, 1] ++ K := by rw [entryL, List.append_assoc]
  obtain ⟨F, hF⟩ : ∃ F, frontL L = F := ⟨_, rfl⟩
  rw [hF] at h hfl hE
  rw [hE]
  obtain ⟨f, hf⟩ : ∃ f, F.length = f := ⟨_, rfl⟩
  rw [hf] at h hfl
  have H := Lib.hid h
  have HF := Lib.hid hf
  have HB := Lib.hid hB
  have HK := Lib.hid hK
  have hf6 := Lib.hid (show f ≤ 600000 by omega)
  have hl := Lib.hid (show (F ++ [0, 1] ++ K).length = f + 2 + m by rw [List.length_append, List.length_append, hf, hK]; rfl)
  clear h hF hE hf hfl hB hA hK hL
  rw [hl.out]
  go_enter Try.func32, Try.ntmps32
  go_wp2_with fail
  refine H.out.mono ?_; rintro e w1 ⟨v1, rfl, hown1, B1⟩
  have HO1 := Lib.hid hown1
  have hs1 := B1.size
  clear hown1
  go_wp2_with (at_builtin; refine append_ls eltB rfl (.tmp 6) (.tmp 7) rfl w.heap.size _ f (iv .u8 F) rfl (HO1.out.alloc _) _ _ 2 [0, 1] rfl rfl (ls_new .u8 _ [0, 1] _ _ _ rfl 2 rfl) (by have := hf6.out; omega) (by simp; omega) ?_)
  intro v2 w2 hown2 hgrow2
  rw [← iv_append] at hown2
  have B2 := (B1.alloc hs1 _).grown hgrow2 (by simp; omega) (fun j hj => (HO1.out.lt j hj).1)
  have hs2 := B2.size
  have HO2 := Lib.hid hown2
  clear hown2 hgrow2
  go_wp2_with (at_builtin; refine append_ls eltB rfl (.tmp 8) (.tmp 9) rfl w.heap.size v2 (f + 2) (iv .u8 (F ++ [0, 1])) rfl HO2.out b cb m K HK.out rfl (HB.out.below B2) (by have := hf6.out; omega) hs2 ?_)
  intro v3 w3 hown3 hgrow3
  rw [← iv_append] at hown3
  have B3 := B2.grown hgrow3 hs2 (fun j hj => (HO2.out.lt j hj).1)
  obtain ⟨a', c', rfl, l', _⟩ := own_ls hown3 hl.out
  have HL3 := Lib.hid l'
  clear hown3 hgrow3 l'
  go_wp2_with fail
  go_ret
  exact ⟨a', c', rfl, HL3.out, B3⟩
end Go.Proofs.Ytkgcbhpgkcfkhaa
