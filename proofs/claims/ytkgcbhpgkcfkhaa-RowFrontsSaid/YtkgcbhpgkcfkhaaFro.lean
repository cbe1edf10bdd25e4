/- A field's front is put together of its parts' fronts: the law's walk. -/
import Derived.Test.YtkgcbhpgkcfkhaaKno
namespace Go.Proofs.Ytkgcbhpgkcfkhaa
open Go.ChangeShapes Go.WideShapes Go.ChangeAt Go.RowKit
set_option linter.unusedVariables false
set_option linter.unusedSimpArgs false

theorem front_any (a : Option Addr) (L : List Int) (n cap : Nat) (hL : L.length = n) (w : World) (hR : Ls .u8 w a cap L) :
    Calls Try.prog 29 #[.slice a n cap] w fun r w' => (∃ a' m c' e, r = .returned (.tuple #[.slice a' m c', .int .i64 e])) ∧ Below w.heap.size w w' := by
  by_cases h : n ≤ 24
  · exact (front_ok a L n cap hL h w hR).mono fun r w' ⟨a', c', h1, _, h2⟩ => ⟨⟨a', _, c', 0, h1⟩, h2⟩
  · exact (front_bad a n cap (by omega) w).mono fun r w' ⟨h1, h2⟩ => ⟨⟨none, 0, 0, 2, h1⟩, h2⟩
set_option maxRecDepth 100000 in
set_option maxHeartbeats 2000000 in
theorem fronts_much (a b c : Option Addr) (n0 n1 n2 c0 c1 c2 : Nat) (h0 : n0 ≤ 140737488355328) (h1 : n1 ≤ 140737488355328) (h2 : n2 ≤ 140737488355328) (h : 9000 < n0 + n1 + n2) (w : World) :
    Calls Try.prog 5 #[.slice a n0 c0, .slice b n1 c1, .slice c n2 c2] w fun r w' => r = .returned (.bool true) ∧ Below w.heap.size w w' := by
  have i0 : (n0 : Int) ≤ 140737488355328 := by omega
  have i1 : (n1 : Int) ≤ 140737488355328 := by omega
  have i2 : (n2 : Int) ≤ 140737488355328 := by omega
  have i3 : (9000 : Int) < (n0 : Int) + (n1 : Int) + (n2 : Int) := by omega
  go_enter Try.func5, Try.ntmps5
  go_wp2_with fail
  refine (known_law _).mono ?_; rintro e w' ⟨rfl, B⟩
  go_wp2_with fail
  go_ret
  exact ⟨rfl, B⟩
set_option maxRecDepth 100000 in
set_option maxHeartbeats 4000000 in
theorem fronts_long (a b c : Option Addr) (F G : List Int) (n0 n1 n2 c0 c1 c2 : Nat) (hF : F.length = n0) (hG : G.length = n1) (h : n0 + n1 + n2 ≤ 9000) (hl : 24 < n0 + n1) (w : World) (hA : Ls .u8 w a c0 F) (hB : Ls .u8 w b c1 G) :
    Calls Try.prog 5 #[.slice a n0 c0, .slice b n1 c1, .slice c n2 c2] w fun r w' => r = .returned (.bool true) ∧ Below w.heap.size w w' := by
  have i0 : (n0 : Int) ≤ 9000 := by omega
  have i1 : (n1 : Int) ≤ 9000 := by omega
  have i2 : (n2 : Int) ≤ 9000 := by omega
  have i3 : ¬ (9000 : Int) < (n0 : Int) + (n1 : Int) + (n2 : Int) := by omega
  have HA := Lib.hid hA
  have HB := Lib.hid hB
  have HF := Lib.hid hF
  have HG := Lib.hid hG
  have hls := Lib.hid (show (F ++ G).length = n0 + n1 by rw [List.length_append, hF, hG])
  have hli : (24 : Int) < (n0 : Int) + (n1 : Int) := by omega
  clear hA hB hF hG
  go_enter Try.func5, Try.ntmps5
  go_wp2_with (at_builtin; refine append_ls eltB rfl (.const (.slice none 0 0)) (.tmp 26) rfl w.heap.size (.slice none 0 0) 0 [] rfl (World.ownsRow_nil _ _ _ _) a c0 n0 F HF.out rfl HA.out (by omega) (Nat.le_refl _) ?_)
  intro v1 w1 hown1 hg1
  have B1 : Below w.heap.size w w1 := (Below.refl _ _).grown hg1 (Nat.le_refl _) (fun j hj => by cases hj)
  have HO1 := Lib.hid hown1
  clear hown1 hg1
  go_wp2_with (at_builtin; refine append_ls eltB rfl (.tmp 27) (.tmp 28) rfl w.heap.size v1 n0 (iv .u8 F) rfl HO1.out b c1 n1 G HG.out rfl (HB.out.below B1) (by omega) B1.size ?_)
  intro v2 w2 hown2 hg2
  rw [← iv_append] at hown2
  have B2 : Below w.heap.size w w2 := B1.grown hg2 B1.size (fun j hj => (HO1.out.lt j hj).1)
  obtain ⟨a2, cp2, rfl, l2, _⟩ := own_ls hown2 hls.out
  obtain ⟨m, hm⟩ : ∃ m, n0 + n1 = m := ⟨_, rfl⟩
  rw [hm] at hl ⊢
  have hli2 : (24 : Int) < (m : Int) := by omega
  have HLS := Lib.hid (show (F ++ G).length = m by rw [hls.out, hm])
  have hmi : (m : Int) ≤ 9000 := by omega
  have L2 := Lib.hid l2
  clear hown2 hg2 HO1 B1 l2 hls hm
  go_wp2_with fail
  refine (front_any a F n0 c0 HF.out _ (HA.out.below B2)).mono ?_; rintro e w3 ⟨⟨a3, m3, c3, e3, rfl⟩, B3⟩
  replace B2 := step_below B2 B3
  replace L2 := Lib.hid (L2.out.below B3)
  clear B3
  go_wp2_with fail
  refine (front_any b G n1 c1 HG.out _ (HB.out.below B2)).mono ?_; rintro e w4 ⟨⟨a4, m4, c4, e4, rfl⟩, B3⟩
  replace B2 := step_below B2 B3
  replace L2 := Lib.hid (L2.out.below B3)
  clear B3
  go_wp2_with fail
  refine (front_bad a2 m cp2 hl _).mono ?_; rintro e w5 ⟨rfl, B3⟩
  replace B2 := step_below B2 B3
  replace L2 := Lib.hid (L2.out.below B3)
  clear B3
  go_wp2_with fail
  refine (entry_bad a2 c (F ++ G) m n2 cp2 c2 HLS.out (.inl hl) _ L2.out).mono ?_; rintro e w6 ⟨rfl, B3⟩
  replace B2 := step_below B2 B3
  clear B3 L2
  go_wp2_with (go_at_call 24; refine (num_law _ _).mono ?_; rintro e w' ⟨rfl, rfl⟩)
  refine (known_law _).mono ?_; rintro e w7 ⟨rfl, B3⟩
  replace B2 := step_below B2 B3
  clear B3
  go_wp2_with fail
  go_ret
  exact ⟨rfl, B2⟩
set_option maxRecDepth 100000 in
set_option maxHeartbeats 4000000 in
theorem fronts_short (a b c : Option Addr) (F G K : List Int) (n0 n1 n2 c0 c1 c2 : Nat) (hF : F.length = n0) (hG : G.length = n1) (hK : K.length = n2) (h : n0 + n1 + n2 ≤ 9000) (hl : n0 + n1 ≤ 24) (w : World) (hA : Ls .u8 w a c0 F) (hB : Ls .u8 w b c1 G) (hC : Ls .u8 w c c2 K) :
    Calls Try.prog 5 #[.slice a n0 c0, .slice b n1 c1, .slice c n2 c2] w fun r w' => r = .returned (.bool true) ∧ Below w.heap.size w w' := by
  have i0 : (n0 : Int) ≤ 9000 := by omega
  have i1 : (n1 : Int) ≤ 9000 := by omega
  have i2 : (n2 : Int) ≤ 9000 := by omega
  have i3 : ¬ (9000 : Int) < (n0 : Int) + (n1 : Int) + (n2 : Int) := by omega
  have HA := Lib.hid hA
  have HB := Lib.hid hB
  have HF := Lib.hid hF
  have HG := Lib.hid hG
  have hls := Lib.hid (show (F ++ G).length = n0 + n1 by rw [List.length_append, hF, hG])
  have HC := Lib.hid hC
  have HK := Lib.hid hK
  have hmk := Lib.hid (show mayK n2 = true ∨ mayK n2 = false by cases mayK n2 <;> simp)
  clear hA hB hF hG hC hK
  go_enter Try.func5, Try.ntmps5
  go_wp2_with (at_builtin; refine append_ls eltB rfl (.const (.slice none 0 0)) (.tmp 26) rfl w.heap.size (.slice none 0 0) 0 [] rfl (World.ownsRow_nil _ _ _ _) a c0 n0 F HF.out rfl HA.out (by omega) (Nat.le_refl _) ?_)
  intro v1 w1 hown1 hg1
  have B1 : Below w.heap.size w w1 := (Below.refl _ _).grown hg1 (Nat.le_refl _) (fun j hj => by cases hj)
  have HO1 := Lib.hid hown1
  clear hown1 hg1
  go_wp2_with (at_builtin; refine append_ls eltB rfl (.tmp 27) (.tmp 28) rfl w.heap.size v1 n0 (iv .u8 F) rfl HO1.out b c1 n1 G HG.out rfl (HB.out.below B1) (by omega) B1.size ?_)
  intro v2 w2 hown2 hg2
  rw [← iv_append] at hown2
  have B2 : Below w.heap.size w w2 := B1.grown hg2 B1.size (fun j hj => (HO1.out.lt j hj).1)
  obtain ⟨a2, cp2, rfl, l2, _⟩ := own_ls hown2 hls.out
  obtain ⟨m, hm⟩ : ∃ m, n0 + n1 = m := ⟨_, rfl⟩
  rw [hm] at hl ⊢
  have hn0 : n0 ≤ 24 := by omega
  have hn1 : n1 ≤ 24 := by omega
  have HLS := Lib.hid (show (F ++ G).length = m by rw [hls.out, hm])
  have hmi : (m : Int) ≤ 9000 := by omega
  have L2 := Lib.hid l2
  clear hown2 hg2 HO1 B1 l2 hls hm
  go_wp2_with fail
  have FF : frontL (F ++ G) = frontL F ++ frontL G := frontL_append F G
  have hfl0 := frontL_len F
  have hfl1 := frontL_len G
  obtain ⟨F', hF'⟩ : ∃ F', frontL F = F' := ⟨_, rfl⟩
  obtain ⟨G', hG'⟩ : ∃ G', frontL G = G' := ⟨_, rfl⟩
  have f1 := Lib.hid (fun W bl => front_ok a F n0 c0 HF.out hn0 W (HA.out.below bl))
  have f2 := Lib.hid (fun W bl => front_ok b G n1 c1 HG.out hn1 W (HB.out.below bl))
  have f3 := Lib.hid (fun W l => front_ok a2 (F ++ G) m cp2 HLS.out hl W l)
  have f4 := Lib.hid (fun W (hk : mayK n2 = true) bl l => entry_ok a2 c (F ++ G) K m n2 cp2 c2 HLS.out HK.out hl hk W l (HC.out.below bl))
  have f5 := Lib.hid (fun W (hk : mayK n2 = false) l => entry_bad a2 c (F ++ G) m n2 cp2 c2 HLS.out (.inr hk) W l)
  simp only [entryL] at f4
  rw [FF] at f3 f4
  rw [hF', hG'] at f3 f4
  rw [hF'] at f1 hfl0
  rw [hG'] at f2 hfl1
  rw [HF.out] at hfl0
  rw [HG.out] at hfl1
  have s0 : (strOfNums F').size = F'.length := strOfNums_size _
  have s1 : (strOfNums G').size = G'.length := strOfNums_size _
  have s2 : (strOfNums K).size = n2 := by rw [strOfNums_size]; exact HK.out
  have sc := str_append F' G'
  have sx : strOfNums (F' ++ G' ++ ([0, 1] ++ K)) = strOfNums F' ++ strOfNums G' ++ ⟨#[0, 1]⟩ ++ strOfNums K := by rw [show (⟨#[0, 1]⟩ : ByteArray) = strOfNums [0, 1] from rfl]; simp only [str_append, ByteArray.append_assoc]
  obtain ⟨x0, hx0⟩ : ∃ x0, F'.length = x0 := ⟨_, rfl⟩
  obtain ⟨x1, hx1⟩ : ∃ x1, G'.length = x1 := ⟨_, rfl⟩
  have lenc : (F' ++ G').length = x0 + x1 := by rw [List.length_append, hx0, hx1]
  have lenx : (F' ++ G' ++ ([0, 1] ++ K)).length = x0 + x1 + (2 + n2) := by rw [List.length_append, lenc, List.length_append, HK.out]; rfl
  rw [hx0] at f1 hfl0 s0
  rw [hx1] at f2 hfl1 s1
  rw [lenc] at f3
  rw [lenx] at f4
  have HX0 := Lib.hid hx0
  have HX1 := Lib.hid hx1
  have HLC := Lib.hid lenc
  have HLX := Lib.hid lenx
  have SC := Lib.hid sc
  have SX := Lib.hid sx
  have S0 := Lib.hid s0
  have S1 := Lib.hid s1
  have S2 := Lib.hid s2
  clear FF hF' hG' sc sx s0 s1 s2 hx0 hx1 lenc lenx
  go_wp2_with fail
  refine (f1.out _ B2).mono ?_; rintro e w3 ⟨a3, c3, rfl, l3, B3⟩
  replace B2 := step_below B2 B3
  replace L2 := Lib.hid (L2.out.below B3)
  replace l3 := Lib.hid l3
  clear B3
  go_wp2_with fail
  refine (f2.out _ B2).mono ?_; rintro e w4 ⟨a4, c4, rfl, l4, B3⟩
  replace B2 := step_below B2 B3
  replace L2 := Lib.hid (L2.out.below B3)
  replace l3 := Lib.hid (l3.out.below B3)
  replace l4 := Lib.hid l4
  clear B3
  go_wp2_with fail
  refine (f3.out _ L2.out).mono ?_; rintro e w5 ⟨a5, c5, rfl, l5, B3⟩
  replace B2 := step_below B2 B3
  replace L2 := Lib.hid (L2.out.below B3)
  replace l3 := Lib.hid (l3.out.below B3)
  replace l4 := Lib.hid (l4.out.below B3)
  replace l5 := Lib.hid l5
  clear B3
  go_wp2_with fail
  have adds : ∀ (W : World) (s t : ByteArray), s.size + t.size ≤ 1000000 → (Op.stringOp .add s t).run Try.prog W = .ok (.string (s ++ t)) W := fun W s t h => run_string_add W s t (by omega) (by omega)
  have ADDS := Lib.hid adds
  clear adds
  rcases hmk.out with hk | hk
  · refine (f4.out _ hk B2 L2.out).mono ?_; rintro e w6 ⟨a6, c6, rfl, l6, B3⟩
    replace B2 := step_below B2 B3
    have q1 := kc_ls a3 x0 c3 F' (strOfNums F') HX0.out rfl w6 (l3.out.below B3)
    have q2 := kc_ls a4 x1 c4 G' (strOfNums G') HX1.out rfl w6 (l4.out.below B3)
    have q3 := kc_ls a5 (x0 + x1) c5 (F' ++ G') (strOfNums F' ++ strOfNums G') HLC.out SC.out w6 (l5.out.below B3)
    have q4 := kc_ls a6 (x0 + x1 + (2 + n2)) c6 _ (strOfNums F' ++ strOfNums G' ++ ⟨#[0, 1]⟩ ++ strOfNums K) HLX.out SX.out w6 l6
    have q5 := kc_ls c n2 c2 K (strOfNums K) HK.out rfl w6 (HC.out.below B2)
    have p1 := ADDS.out w6 (strOfNums F') (strOfNums G') (by rw [S0.out, S1.out]; omega)
    have p2 := ADDS.out w6 (strOfNums F' ++ strOfNums G') ⟨#[0, 1]⟩ (by rw [ByteArray.size_append, S0.out, S1.out]; show _ + 2 ≤ _; omega)
    have p3 := ADDS.out w6 (strOfNums F' ++ strOfNums G' ++ ⟨#[0, 1]⟩) (strOfNums K) (by rw [ByteArray.size_append, ByteArray.size_append, S0.out, S1.out, S2.out]; show _ + 2 + _ ≤ _; omega)
    have hmk2 := maykey_law c n2 c2 w6
    rw [hk] at hmk2
    have HMK := Lib.hid hmk2
    generalize strOfNums F' = sF at q1 q3 q4 p1 p2 p3
    generalize strOfNums G' = sG at q2 q3 q4 p1 p2 p3
    generalize strOfNums K = sK at q4 q5 p3
    clear B3 L2 l3 l4 l5 l6 hmk2 f1 f2 f3 f4 f5
    go_wp2_with (first | (go_at_call 24; refine (num_law _ _).mono ?_; rintro e w' ⟨rfl, rfl⟩) | (go_at_call 20; refine HMK.out.mono ?_; rintro e w' ⟨rfl, rfl⟩))
    refine (known_law _).mono ?_; rintro e w7 ⟨rfl, B3⟩
    replace B2 := step_below B2 B3
    clear B3
    go_wp2_with fail
    go_ret
    exact ⟨rfl, B2⟩
  · refine (f5.out _ hk L2.out).mono ?_; rintro e w6 ⟨rfl, B3⟩
    replace B2 := step_below B2 B3
    have q1 := kc_ls a3 x0 c3 F' (strOfNums F') HX0.out rfl w6 (l3.out.below B3)
    have q2 := kc_ls a4 x1 c4 G' (strOfNums G') HX1.out rfl w6 (l4.out.below B3)
    have q3 := kc_ls a5 (x0 + x1) c5 (F' ++ G') (strOfNums F' ++ strOfNums G') HLC.out SC.out w6 (l5.out.below B3)
    have p1 := ADDS.out w6 (strOfNums F') (strOfNums G') (by rw [S0.out, S1.out]; omega)
    have hmk2 := maykey_law c n2 c2 w6
    rw [hk] at hmk2
    have HMK := Lib.hid hmk2
    generalize strOfNums F' = sF at q1 q3 p1
    generalize strOfNums G' = sG at q2 q3 p1
    clear B3 L2 l3 l4 l5 hmk2 f1 f2 f3 f4 f5
    go_wp2_with (first | (go_at_call 24; refine (num_law _ _).mono ?_; rintro e w' ⟨rfl, rfl⟩) | (go_at_call 20; refine HMK.out.mono ?_; rintro e w' ⟨rfl, rfl⟩))
    refine (known_law _).mono ?_; rintro e w7 ⟨rfl, B3⟩
    replace B2 := step_below B2 B3
    clear B3
    go_wp2_with fail
    go_ret
    exact ⟨rfl, B2⟩
theorem fronts_law (a b c : Option Addr) (n0 n1 n2 c0 c1 c2 : Nat) (zs0 zs1 zs2 : List Int) (h0 : n0 ≤ 140737488355328) (h1 : n1 ≤ 140737488355328) (h2 : n2 ≤ 140737488355328) (w : World) (hA : IsRow .u8 w a n0 c0 zs0) (hB : IsRow .u8 w b n1 c1 zs1) (hC : IsRow .u8 w c n2 c2 zs2) :
    Calls Try.prog 5 #[.slice a n0 c0, .slice b n1 c1, .slice c n2 c2] w fun r w' => r = .returned (.bool true) ∧ Below w.heap.size w w' := by
  by_cases h : n0 + n1 + n2 ≤ 9000
  · by_cases hl : n0 + n1 ≤ 24
    · exact fronts_short a b c _ _ _ n0 n1 n2 c0 c1 c2 hA.ls.2 hB.ls.2 hC.ls.2 h hl w hA.ls.1 hB.ls.1 hC.ls.1
    · exact fronts_long a b c _ _ n0 n1 n2 c0 c1 c2 hA.ls.2 hB.ls.2 h (by omega) w hA.ls.1 hB.ls.1
  · exact fronts_much a b c n0 n1 n2 c0 c1 c2 h0 h1 h2 (by omega) w
end Go.Proofs.Ytkgcbhpgkcfkhaa
