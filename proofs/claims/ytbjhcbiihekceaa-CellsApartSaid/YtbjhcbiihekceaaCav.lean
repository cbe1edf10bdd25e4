/- CellsApart's walk. -/
import Derived.Test.YtbjhcbiihekceaaCap
namespace Go.Proofs.Ytbjhcbiihekceaa
open Go.ChangeShapes Go.WideShapes Go.ChangeAt Go.RowKit Go.Maps
set_option linter.unusedVariables false
set_option linter.unusedSimpArgs false
set_option maxRecDepth 100000 in
theorem apart_no (N : Int) (a1 a2 : Option Addr) (len cap len2 cap2 : Nat) (w : World) (h : N < 1024 ∨ 65536 < N) : Calls Try.prog 8 #[.int .i64 N, .slice a1 len cap, .slice a2 len2 cap2] w fun e w' => e = .returned (.bool true) ∧ Below w.heap.size w w' := by
  have HN := Lib.hid h
  clear h
  go_enter Try.func8, Try.ntmps8
  go_wp2_with fail
  refine (new_bad N HN.out w).mono ?_
  rintro e w' ⟨rfl, rfl⟩
  go_wp2_with fail
  refine (known_law w).mono ?_
  rintro e w' ⟨rfl, hB⟩
  replace hB := Lib.hid hB
  go_wp2_with fail
  go_ret
  exact ⟨rfl, hB.out⟩
set_option maxRecDepth 100000 in
theorem apart_skip (n : Nat) (a1 a2 : Option Addr) (len cap len2 cap2 : Nat) (w : World) (h1 : 1024 ≤ n) (h2 : n ≤ 65536) (h : 200 < len) : Calls Try.prog 8 #[.int .i64 n, .slice a1 len cap, .slice a2 len2 cap2] w fun e w' => e = .returned (.bool true) ∧ Below w.heap.size w w' := by
  have HN := Lib.hid (new_law n h1 h2 w)
  go_enter Try.func8, Try.ntmps8
  go_wp2_with fail
  refine HN.out.mono ?_
  rintro e W1 ⟨rfl, hA, hB⟩
  replace hB := Lib.hid hB
  clear hA
  go_wp2_with fail
  refine (known_any W1 hB.out hB.out.size).mono ?_
  rintro e w' ⟨rfl, hB2⟩
  replace hB2 := Lib.hid hB2
  go_wp2_with fail
  go_ret
  exact ⟨rfl, hB2.out⟩
theorem bel_drewN {B : Nat} {a w : World} (h : Below B a w) (n : Nat) : Below B a (w.drewN n) := ⟨h.os, h.tape, h.output, h.size, h.block⟩
theorem info3 : (Try.prog.info? 3).map (fun i => (i.zero, i.size, i.bytes)) = some (some (.int .i64 0), 1, 8) := by kernel_rfl
/-- What the loop over the sizes keeps. -/
def Rl (w : World) (n k : Nat) (A M : Value) (W : World) : Prop := ∃ P m F G D, St w n k A M P m F G D W
set_option maxRecDepth 100000 in
set_option maxHeartbeats 8000000 in
theorem apart_main (n : Nat) (a1 a2 : Option Addr) (len cap len2 cap2 : Nat) (w : World) (h1 : 1024 ≤ n) (h2 : n ≤ 65536) (h3 : len ≤ 200) (hc : ∀ k < len, ∃ b off x, a1 = some ⟨b, off, none⟩ ∧ b < w.heap.size ∧ w.cell? ⟨b, off + k, none⟩ = some (.int .i64 x)) (hb : ∀ k < len2, ∃ b off x, a2 = some ⟨b, off, none⟩ ∧ b < w.heap.size ∧ w.cell? ⟨b, off + k, none⟩ = some (.bool x)) (hl2 : len2 ≤ 9223372036854775807) : Calls Try.prog 8 #[.int .i64 n, .slice a1 len cap, .slice a2 len2 cap2] w fun e w' => e = .returned (.bool true) ∧ Below w.heap.size w w' := by
  have HN := Lib.hid (new_law n h1 h2 w)
  have HC := Lib.hid hc
  have HB := Lib.hid hb
  obtain ⟨i0, hi, hz0, hz1, hz2⟩ := info_parts info62
  obtain ⟨j0, ki, kz0, kz1, kz2⟩ := info_parts info3
  clear hc hb
  go_enter Try.func8, Try.ntmps8
  go_wp2_with fail
  refine HN.out.mono ?_
  rintro e W1 ⟨rfl, hA, hB⟩
  have HR := Lib.hid (show Rl w n 0 (.slice none 0 0) (.slice none 0 0) W1 from ⟨[], 0, _, _, _, hA, Nat.le_refl _, hB, World.ownsRow_nil _ _ _ _, World.ownsRow_nil _ _ _ _, Nat.le_refl _, fun x hx => by cases hx⟩)
  clear hA hB HN
  go_wp2_with fail
  go_loopw [9, 10, 11] (fun A M i wr => ∃ k : Nat, k ≤ len ∧ i = .int .i64 (k : Int) ∧ Hid (Rl w n k A M wr)) (fun _ _ i _ => len - (intOf i).toNat)
  case atStart => exact ⟨0, Nat.zero_le _, rfl, HR⟩
  case round =>
    clear HR
    obtain ⟨k, hk, rfl, HR⟩ := hrel
    by_cases hlt : k < len
    · obtain ⟨b, off, x, rfl, hbl, hx⟩ := HC.out k hlt
      have HX := Lib.hid (And.intro hbl hx)
      obtain ⟨P, m, F, G, D, hS⟩ := HR.out
      clear HR hk hbl hx
      have hx1 := (hS.bel.cell (p := ⟨b, off + k, none⟩) HX.out.1).trans HX.out.2
      replace hS := Lib.hid hS
      go_wp2_with fail
      by_cases hsz : x < 1 ∨ 256 < x
      · refine (take_bad hS.out.ar x hsz).mono ?_
        rintro e W2 ⟨rfl, rfl⟩
        clear hsz
        go_wp2_with fail
        go_roundw
        case rel => exact ⟨k + 1, by omega, by go_num, Lib.hid ⟨P, m, F, G, D, hS.out.below (Below.refl _ _) (k + 1) (by omega)⟩⟩
        case measure => simp [intOf]; omega
      · obtain ⟨S, hSx⟩ := Int.eq_ofNat_of_zero_le (show 0 ≤ x by omega)
        subst hSx
        have hS1 : 1 ≤ S := by omega
        have hS2 : S ≤ 256 := by omega
        clear hsz
        have HT := Lib.hid (take_law hS.out.ar S hS1 hS2 (by have := hS.out.mle; omega))
        refine HT.out.mono ?_
        clear HT
        rintro e W2 (⟨a, ha, rfl, hA, hO⟩ | ⟨hno, rfl, rfl⟩)
        · have hS2 := Lib.hid (show St w n (k + 1) _ _ P (m + 1) (fill F a S 0) (fill G a S true) (D.put (.int .u64 a) (.lit (.int .i64 S))) W2 from hS.out.off hA hO (k + 1) (by omega) (by have := hS.out.mle; omega) (fun y hy => (hS.out.ok y hy).move (apart_of (hS.out.ok y hy) ha.1 hS1) (fun j hj => fill_out _ _ _ _ _ hj) (fun j hj => fill_out _ _ _ _ _ hj)))
          have hx2 := (hS2.out.bel.cell (p := ⟨b, off + k, none⟩) HX.out.1).trans HX.out.2
          have ha1 : 64 ≤ a := ha.1.1
          have ha2 : a + S ≤ n := ha.1.2.1
          have HA := Lib.hid (show ∀ y ∈ P, a + S ≤ y.1 ∨ y.1 + y.2 ≤ a from fun y hy => apart_of (hS.out.ok y hy) ha.1 hS1)
          have HRm := Lib.hid ha.1
          have HMp := Lib.hid (hS.out.ar.map.isMap)
          obtain ⟨aA, cA, rfl, hAc⟩ := own_form hS2.out.rA
          obtain ⟨aM, cM, rfl, hMc⟩ := own_form hS2.out.rM
          replace hAc := Lib.hid hAc
          replace hMc := Lib.hid hMc
          have hPk : P.length ≤ k := hS.out.pk
          have hPl : P.length ≤ 200 := by omega
          clear hA hO ha hS hx1
          go_wp2_with fail
          go_loopw [14] (fun i wr => ∃ (j q : Nat), j ≤ P.length ∧ i = .int .i64 (j : Int) ∧ wr = W2.drewN q) (fun i _ => P.length - (intOf i).toNat)
          case atStart => exact ⟨0, 0, Nat.zero_le _, rfl, rfl⟩
          case round =>
            obtain ⟨j, q, hj, rfl, rfl⟩ := hrel
            by_cases hjl : j < P.length
            · obtain ⟨gA, rfl, _, cA1⟩ := hAc.out j hjl
              obtain ⟨gM, rfl, _, cM1⟩ := hMc.out j hjl
              have hmem := List.getElem_mem hjl
              have hap := HA.out _ hmem
              have hok := (hS2.out.ok _ hmem)
              rw [uA, List.getElem?_map, List.getElem?_eq_getElem hjl] at cA1
              rw [uM, List.getElem?_map, List.getElem?_eq_getElem hjl] at cM1
              obtain ⟨y, hy⟩ : ∃ y, P[j] = y := ⟨_, rfl⟩
              rw [hy] at cA1 cM1 hap hok
              obtain ⟨u, v⟩ := y
              simp only [Option.map_some] at cA1 cM1
              have hu : u + v ≤ n := hok.2.2.2.1
              have hv : 1 ≤ v := hok.2.1
              clear hmem hok hy hj
              go_wp2_with fail
              have w1 : IntKind.u64.wrap ((u : Int) + v) = u + v := by rw [IntKind.wrap_u64]; omega
              have w2 : IntKind.u64.wrap ((a : Int) + S) = a + S := by rw [IntKind.wrap_u64]; omega
              by_cases hd : u + v ≤ a
              · have d1 : decide ((a : Int) < u + v) = false := decide_eq_false (by omega)
                go_quiet (fail)
                go_wp2_with fail
                go_roundw
                case rel => exact ⟨j + 1, q + nq, by omega, by go_num, by first | rfl | simp [Nat.add_comm]⟩
                case measure => simp [intOf]; omega
              · have d1 : decide ((a : Int) < u + v) = true := decide_eq_true (by omega)
                have d2 : decide ((u : Int) < a + S) = false := decide_eq_false (by omega)
                go_quiet (fail)
                go_wp2_with fail
                go_roundw
                case rel => exact ⟨j + 1, q + nq, by omega, by go_num, by first | rfl | simp [Nat.add_comm]⟩
                case measure => simp [intOf]; omega
            · have hS3 := Lib.hid (hS2.out.below (bel_drewN (Below.refl W2.heap.size W2) q) (k + 1) (Nat.le_refl _))
              have hx3 : (W2.drewN q).cell? ⟨b, off + k, none⟩ = some (.int .i64 (S : Int)) := hx2
              clear hS2 hx2 hAc hMc hj
              generalize W2.drewN q = W3 at hS3 hx3 ⊢
              have HSt := Lib.hid (show Ar W3 (w.heap.size + 1 + 1) w.heap.size (w.heap.size + 1) n (m + 1) (stp (fill F a S 0) a 0) (fill G a S true) (D.put (.int .u64 a) (.lit (.int .i64 S))) ∧ Off (fun j => j = w.heap.size ∨ j = w.heap.size + 1) W3 W3 from ⟨by rw [stp_zero]; exact hS3.out.ar, Off.refl _ _⟩)
              go_wp2_with fail
              go_loopw [15] (fun i wr => ∃ j : Nat, j ≤ S ∧ i = .int .u64 (j : Int) ∧ Hid (Ar wr (w.heap.size + 1 + 1) w.heap.size (w.heap.size + 1) n (m + 1) (stp (fill F a S 0) a j) (fill G a S true) (D.put (.int .u64 a) (.lit (.int .i64 S))) ∧ Off (fun j => j = w.heap.size ∨ j = w.heap.size + 1) W3 wr)) (fun i _ => S - (intOf i).toNat)
              case atStart => exact ⟨0, Nat.zero_le _, rfl, HSt⟩
              case round =>
                clear HSt
                obtain ⟨j, hj, rfl, HSt⟩ := hrel
                have hx4 : wr.cell? ⟨b, off + k, none⟩ = some (.int .i64 (S : Int)) := (World.cell?_of_block (w := W3) (HSt.out.2.block b (World.block_lt_of_cell? _ _ hx3) (by have := HX.out.1; omega))).trans hx3
                by_cases hjl : j < S
                · clear hj
                  have HLd := Lib.hid (load_at HSt.out.1 (a + j) ((a : Int) + j) 0 (by omega) (by omega) (by rw [stp_out _ _ _ _ (Or.inr (Nat.le_refl _)), fill_in _ _ _ _ _ (by omega) (by omega)]))
                  go_wp2_with fail
                  refine HLd.out.mono ?_
                  rintro e W4 ⟨rfl, hA4, hB4⟩
                  have HTk := Lib.hid (taken_at hA4 (a + j) ((a : Int) + j) true (by omega) (by omega) (fill_in _ _ _ _ _ (by omega) (by omega)))
                  have HSo := Lib.hid (store_at hA4 (a + j) ((a : Int) + j) ((j : Int) + 1) (by omega) (by omega))
                  have HO4 := Lib.hid (HSt.out.2.then hB4)
                  clear HLd hA4 hB4 HSt hx4
                  go_wp2_with fail
                  refine HTk.out.mono ?_
                  rintro e w' ⟨rfl, rfl⟩
                  clear HTk
                  go_wp2_with fail
                  refine HSo.out.mono ?_
                  rintro e W5 ⟨rfl, hA5, hO5⟩
                  clear HSo
                  have HSt5 := Lib.hid (And.intro hA5 (HO4.out.trans (hO5.mono fun k e => Or.inl e)))
                  clear hA5 hO5 HO4
                  go_wp2_with fail
                  go_roundw
                  case rel => exact ⟨j + 1, by omega, by go_num, Lib.hid ⟨by rw [stp_succ]; exact HSt5.out.1, HSt5.out.2⟩⟩
                  case measure => simp [intOf]; omega
                · obtain rfl : j = S := by omega
                  have hS4 := Lib.hid (hS3.out.off HSt.out.1 HSt.out.2 (k + 1) (Nat.le_refl _) (by have := hS3.out.mle; omega) (fun y hy => (hS3.out.ok y hy).move (a := a) (S := j) (HA.out y hy) (fun i hi => by rw [stp_out _ _ _ _ hi]) (fun i hi => rfl)))
                  clear hS3 hx3 hj HSt
                  by_cases hbk : k < len2 ∧ (∀ b2 off2 y, a2 = some ⟨b2, off2, none⟩ → w.cell? ⟨b2, off2 + k, none⟩ = some (.bool y) → y = true)
                  · obtain ⟨b2, off2, y, rfl, hb2, hy⟩ := HB.out k hbk.1
                    obtain rfl := hbk.2 _ _ _ rfl hy
                    have hy4 := (hS4.out.bel.cell (p := ⟨b2, off2 + k, none⟩) hb2).trans hy
                    have hk2 : k < len2 := hbk.1
                    have HG := Lib.hid (give_law hS4.out.ar a j (by omega) (atKey_put_same HMp.out (kl _) _ _) (has_put_same HMp.out (kl _) _))
                    clear hbk hy hb2
                    go_wp2_with fail
                    refine HG.out.mono ?_
                    rintro e W5 ⟨rfl, hA5, hO5⟩
                    have hx5 : W5.cell? ⟨b, off + k, none⟩ = some (.int .i64 (j : Int)) := (World.cell?_of_block (w := wr) (hO5.block b (World.block_lt_of_cell? _ _ hx4) (by have := HX.out.1; omega))).trans hx4
                    have HLd := Lib.hid (load_at hA5 a (a : Int) 18446744073709494610 rfl (by omega) (fill_in _ _ _ _ _ (Nat.le_refl _) (by omega)))
                    have hS5 := Lib.hid (hS4.out.off hA5 hO5 (k + 1) (Nat.le_refl _) hS4.out.mle (fun y hy => (hS4.out.ok y hy).move (a := a) (S := j) (HA.out y hy) (fun i hi => fill_out _ _ _ _ _ hi) (fun i hi => fill_out _ _ _ _ _ hi)))
                    clear hA5 hO5 HG hy4 hx4 hS4
                    go_wp2_with fail
                    refine HLd.out.mono ?_
                    rintro e W6 ⟨rfl, hA6, hB6⟩
                    have HTk := Lib.hid (taken_at hA6 a (a : Int) false rfl (by omega) (fill_in _ _ _ _ _ (Nat.le_refl _) (by omega)))
                    have hS6 := Lib.hid (hS5.out.below hB6 (k + 1) (Nat.le_refl _))
                    clear hA6 hB6 HLd hS5 hx5
                    go_wp2_with fail
                    refine HTk.out.mono ?_
                    rintro e w' ⟨rfl, rfl⟩
                    clear HTk
                    go_wp2_with fail
                    go_roundw
                    case rel => exact ⟨k + 1, by omega, by go_num, Lib.hid ⟨_, _, _, _, _, hS6.out⟩⟩
                    case measure => simp [intOf]; omega
                  · by_cases hk2 : k < len2
                    · obtain ⟨b2, off2, y, rfl, hb2, hy⟩ := HB.out k hk2
                      have hyf : y = false := by
                        cases y with
                        | false => rfl
                        | true => exact absurd ⟨hk2, fun b3 off3 y3 e hy3 => by cases e; rw [hy] at hy3; cases hy3; rfl⟩ hbk
                      subst hyf
                      have hy4 := (hS4.out.bel.cell (p := ⟨b2, off2 + k, none⟩) hb2).trans hy
                      clear hbk hy hb2
                      go_upto_region 31 with (fail)
                      go_wp2_with (at_builtin; refine wpList_append_own _ rfl _ _ 69 rfl (w.heap.size + 3) 62 i0 (.int .u64 0) 1 8 Try.underlying69 hi hz0 hz1 hz2 rfl (by decide) _ _ _ rfl (hS4.out.rA.alloc _) ⟨wr.heap.size, 0, none⟩ 1 1 [.int .u64 (a : Int)] rfl rfl ?p1 ?p2 ?p3 ?p4 ?p5 ?_)
                      case p1 => intro i u hj; match i, hj with | 0, hj => (simp at hj; subst hj; simp [Addr.add, go_sem])
                      case p2 => intro u hu; simp at hu; subst hu; rfl
                      case p3 => unfold maxLen; omega
                      case p4 => omega
                      case p5 => have := hS4.out.bel.size; have := hS4.out.ar.box.lt; simp; omega
                      intro v1 w1 hown1 hgrow1 _
                      rw [← uA_snoc (x := (a, j))] at hown1
                      obtain ⟨g1, c1, rfl⟩ := own_some hown1 (by omega)
                      have bel1 : Below w.heap.size w w1 := (hS4.out.bel.alloc hS4.out.bel.size _).grown hgrow1 (by have := hS4.out.bel.size; simp; omega) (fun i hi => by have := (hS4.out.rA.lt i hi).1; omega)
                      have rM1 := (hS4.out.rM.alloc (.cells #[.int .u64 (a : Int)] 62)).kept hgrow1 (own_apart hS4.out.rM hS4.out.rA (by decide))
                      have ar1 := ar_grown (hS4.out.ar.below (bl1 _ _)) hgrow1 (fun i hi => by have := (hS4.out.rA.lt i hi).1; omega)
                      have hx5 := (bel1.cell (p := ⟨b, off + k, none⟩) HX.out.1).trans HX.out.2
                      have hsz1 : w.heap.size + 3 ≤ w1.heap.size := (by have q1 := hgrow1.size; have q2 := hS4.out.ar.box.lt; simp at q1; omega)
                      clear hgrow1
                      replace hown1 := Lib.hid hown1
                      replace bel1 := Lib.hid bel1
                      replace rM1 := Lib.hid rM1
                      replace ar1 := Lib.hid ar1
                      go_wp2_with (at_builtin; refine wpList_append_own _ rfl _ _ 67 rfl (w.heap.size + 3) 3 j0 (.int .i64 0) 1 8 Try.underlying67 ki kz0 kz1 kz2 rfl (by decide) _ _ _ rfl (rM1.out.alloc _) ⟨w1.heap.size, 0, none⟩ 1 1 [.int .i64 (j : Int)] rfl rfl ?q1 ?q2 ?q3 ?q4 ?q5 ?_)
                      case q1 => intro i u hj; match i, hj with | 0, hj => (simp at hj; subst hj; simp [Addr.add, go_sem])
                      case q2 => intro u hu; simp at hu; subst hu; rfl
                      case q3 => unfold maxLen; omega
                      case q4 => omega
                      case q5 => simp; omega
                      intro v2 w2 hown2 hgrow2 _
                      rw [← uM_snoc (x := (a, j))] at hown2
                      obtain ⟨g2, c2, rfl⟩ := own_some hown2 (by omega)
                      have hfin := Lib.hid (And.intro hown2 (And.intro ((hown1.out.alloc (.cells #[.int .i64 (j : Int)] 3)).kept hgrow2 (own_apart hown1.out rM1.out (by decide))) (And.intro ((bel1.out.alloc bel1.out.size _).grown hgrow2 (by have := bel1.out.size; simp; omega) (fun i hi => by have := (rM1.out.lt i hi).1; omega)) (ar_grown (ar1.out.below (bl1 _ _)) hgrow2 (fun i hi => by have := (rM1.out.lt i hi).1; omega)))))
                      clear hgrow2 hown2
                      go_wp2_with fail
                      go_roundw
                      case rel => exact ⟨k + 1, by omega, by go_num, Lib.hid ⟨P ++ [(a, j)], m + 1, _, _, _, hfin.out.2.2.2, hS4.out.mle, hfin.out.2.2.1, by simpa using hfin.out.2.1, by simpa using hfin.out.1, by simp; omega, fun y hy => by
                        rcases List.mem_append.1 hy with hy | hy
                        · exact hS4.out.ok y hy
                        · rw [List.mem_singleton.1 hy]
                          exact PcOk.new HRm.out hS1 hS2⟩⟩
                      case measure => simp [intOf]; omega
                    · clear hbk
                      go_upto_region 31 with (fail)
                      go_wp2_with (at_builtin; refine wpList_append_own _ rfl _ _ 69 rfl (w.heap.size + 3) 62 i0 (.int .u64 0) 1 8 Try.underlying69 hi hz0 hz1 hz2 rfl (by decide) _ _ _ rfl (hS4.out.rA.alloc _) ⟨wr.heap.size, 0, none⟩ 1 1 [.int .u64 (a : Int)] rfl rfl ?r1 ?r2 ?r3 ?r4 ?r5 ?_)
                      case r1 => intro i u hj; match i, hj with | 0, hj => (simp at hj; subst hj; simp [Addr.add, go_sem])
                      case r2 => intro u hu; simp at hu; subst hu; rfl
                      case r3 => unfold maxLen; omega
                      case r4 => omega
                      case r5 => have := hS4.out.bel.size; have := hS4.out.ar.box.lt; simp; omega
                      intro v1 w1 hown1 hgrow1 _
                      rw [← uA_snoc (x := (a, j))] at hown1
                      obtain ⟨g1, c1, rfl⟩ := own_some hown1 (by omega)
                      have bel1 : Below w.heap.size w w1 := (hS4.out.bel.alloc hS4.out.bel.size _).grown hgrow1 (by have := hS4.out.bel.size; simp; omega) (fun i hi => by have := (hS4.out.rA.lt i hi).1; omega)
                      have rM1 := (hS4.out.rM.alloc (.cells #[.int .u64 (a : Int)] 62)).kept hgrow1 (own_apart hS4.out.rM hS4.out.rA (by decide))
                      have ar1 := ar_grown (hS4.out.ar.below (bl1 _ _)) hgrow1 (fun i hi => by have := (hS4.out.rA.lt i hi).1; omega)
                      have hx5 := (bel1.cell (p := ⟨b, off + k, none⟩) HX.out.1).trans HX.out.2
                      have hsz1 : w.heap.size + 3 ≤ w1.heap.size := (by have q1 := hgrow1.size; have q2 := hS4.out.ar.box.lt; simp at q1; omega)
                      clear hgrow1
                      replace hown1 := Lib.hid hown1
                      replace bel1 := Lib.hid bel1
                      replace rM1 := Lib.hid rM1
                      replace ar1 := Lib.hid ar1
                      go_wp2_with (at_builtin; refine wpList_append_own _ rfl _ _ 67 rfl (w.heap.size + 3) 3 j0 (.int .i64 0) 1 8 Try.underlying67 ki kz0 kz1 kz2 rfl (by decide) _ _ _ rfl (rM1.out.alloc _) ⟨w1.heap.size, 0, none⟩ 1 1 [.int .i64 (j : Int)] rfl rfl ?s1 ?s2 ?s3 ?s4 ?s5 ?_)
                      case s1 => intro i u hj; match i, hj with | 0, hj => (simp at hj; subst hj; simp [Addr.add, go_sem])
                      case s2 => intro u hu; simp at hu; subst hu; rfl
                      case s3 => unfold maxLen; omega
                      case s4 => omega
                      case s5 => simp; omega
                      intro v2 w2 hown2 hgrow2 _
                      rw [← uM_snoc (x := (a, j))] at hown2
                      obtain ⟨g2, c2, rfl⟩ := own_some hown2 (by omega)
                      have hfin := Lib.hid (And.intro hown2 (And.intro ((hown1.out.alloc (.cells #[.int .i64 (j : Int)] 3)).kept hgrow2 (own_apart hown1.out rM1.out (by decide))) (And.intro ((bel1.out.alloc bel1.out.size _).grown hgrow2 (by have := bel1.out.size; simp; omega) (fun i hi => by have := (rM1.out.lt i hi).1; omega)) (ar_grown (ar1.out.below (bl1 _ _)) hgrow2 (fun i hi => by have := (rM1.out.lt i hi).1; omega)))))
                      clear hgrow2 hown2
                      go_wp2_with fail
                      go_roundw
                      case rel => exact ⟨k + 1, by omega, by go_num, Lib.hid ⟨P ++ [(a, j)], m + 1, _, _, _, hfin.out.2.2.2, hS4.out.mle, hfin.out.2.2.1, by simpa using hfin.out.2.1, by simpa using hfin.out.1, by simp; omega, fun y hy => by
                        rcases List.mem_append.1 hy with hy | hy
                        · exact hS4.out.ok y hy
                        · rw [List.mem_singleton.1 hy]
                          exact PcOk.new HRm.out hS1 hS2⟩⟩
                      case measure => simp [intOf]; omega
        · clear hno
          go_wp2_with fail
          go_roundw
          case rel => exact ⟨k + 1, by omega, by go_num, Lib.hid ⟨P, m, F, G, D, hS.out.below (Below.refl _ _) (k + 1) (by omega)⟩⟩
          case measure => simp [intOf]; omega
    · obtain rfl : k = len := by omega
      obtain ⟨P, m, F, G, D, hS⟩ := HR.out
      obtain ⟨aA, cA, rfl, _⟩ := own_form hS.rA
      obtain ⟨aM, cM, rfl, _⟩ := own_form hS.rM
      have hPk : P.length ≤ 200 := by have := hS.pk; omega
      replace hS := Lib.hid hS
      clear HR hk hlt
      go_wp2_with fail
      go_loopw [22] (fun i wr => ∃ j : Nat, j ≤ P.length ∧ i = .int .i64 (j : Int) ∧ Hid (St w n k (.slice aA P.length cA) (.slice aM P.length cM) P m F G D wr)) (fun i _ => P.length - (intOf i).toNat)
      case atStart => exact ⟨0, Nat.zero_le _, rfl, hS⟩
      case round =>
        clear hS
        obtain ⟨j, hj, rfl, hS⟩ := hrel
        by_cases hjl : j < P.length
        · obtain ⟨gA, rfl, cA1⟩ := own_cell hS.out.rA j hjl
          obtain ⟨gM, rfl, cM1⟩ := own_cell hS.out.rM j hjl
          have hok := hS.out.ok _ (List.getElem_mem hjl)
          rw [uA, List.getElem?_map, List.getElem?_eq_getElem hjl] at cA1
          rw [uM, List.getElem?_map, List.getElem?_eq_getElem hjl] at cM1
          obtain ⟨y, hy⟩ : ∃ y, P[j] = y := ⟨_, rfl⟩
          rw [hy] at cA1 cM1 hok
          obtain ⟨u, v⟩ := y
          simp only [Option.map_some] at cA1 cM1
          have hu : u + v ≤ n := hok.2.2.2.1
          have hv : 1 ≤ v := hok.2.1
          have HF := Lib.hid hok.2.2.2.2.2
          have HLc := Lib.hid (fun W (hb : Below wr.heap.size wr W) => load_at (hS.out.ar.below hb) (u + v - 1) ((u : Int) + v - 1) (v : Int) (by omega) (by omega) HF.out)
          have FC := Lib.hid (fun W (hb : Below wr.heap.size wr W) => And.intro ((hb.cell (p := ⟨gA, j, none⟩) (World.block_lt_of_cell? _ _ cA1)).trans cA1) ((hb.cell (p := ⟨gM, j, none⟩) (World.block_lt_of_cell? _ _ cM1)).trans cM1))
          clear hok hy hj
          go_wp2_with fail
          have w0 : IntKind.u64.wrap (v : Int) = v := by rw [IntKind.wrap_u64]; omega
          have w1 : IntKind.u64.wrap ((u : Int) + v) = u + v := by rw [IntKind.wrap_u64]; omega
          have w2 : IntKind.u64.wrap ((u : Int) + v - 1) = u + v - 1 := by rw [IntKind.wrap_u64]; omega
          refine wp_region_held_drew (S := (fun W => Below wr.heap.size wr W)) (by kernel_rfl) ((Below.refl _ _).drew) (fun hHeld => ?_)
          refine wpAnyH_take (i := 0) (oi := { dst := some 195, op := Op.move (Operand.tmp 7), type := 56, pos := "law.go:177", after := #[], guard := none }) (v := ?_) rfl (by kernel_rfl) (by kernel_rfl) (by kernel_rfl) (fun _ _ _ h => h) (Or.inl ⟨by rfl, ?_⟩) (by assumption) ?_
          rotate_left
          · intro W hSw; go_simp; try with_reducible rfl
          try simp only [Act.put, List.setIfInBounds_toArray, List.set_cons_zero, List.set_cons_succ]
          refine wpAnyH_take (i := 1) (oi := { dst := some 196, op := Op.move (Operand.tmp 9), type := 69, pos := "law.go:177", after := #[], guard := none }) (v := ?_) rfl (by kernel_rfl) (by kernel_rfl) (by kernel_rfl) (fun _ _ _ h => h) (Or.inl ⟨by rfl, ?_⟩) (by assumption) ?_
          rotate_left
          · intro W hSw; go_simp; try with_reducible rfl
          try simp only [Act.put, List.setIfInBounds_toArray, List.set_cons_zero, List.set_cons_succ]
          refine wpAnyH_take (i := 2) (oi := { dst := some 197, op := Op.move (Operand.tmp 22), type := 3, pos := "law.go:177", after := #[], guard := none }) (v := ?_) rfl (by kernel_rfl) (by kernel_rfl) (by kernel_rfl) (fun _ _ _ h => h) (Or.inl ⟨by rfl, ?_⟩) (by assumption) ?_
          rotate_left
          · intro W hSw; go_simp; try with_reducible rfl
          try simp only [Act.put, List.setIfInBounds_toArray, List.set_cons_zero, List.set_cons_succ]
          refine wpAnyH_take (i := 3) (oi := { dst := some 198, op := Op.indexAddr 69 (Operand.tmp 196) (Operand.tmp 197), type := 0, pos := "law.go:177", after := #[{ on := 1, ground := Ground.data }, { on := 2, ground := Ground.data }], guard := none }) (v := ?_) rfl (by kernel_rfl) (by kernel_rfl) (by kernel_rfl) (fun _ _ _ h => h) (Or.inl ⟨by rfl, ?_⟩) (by assumption) ?_
          rotate_left
          · intro W hSw; go_simp; try with_reducible rfl
          try simp only [Act.put, List.setIfInBounds_toArray, List.set_cons_zero, List.set_cons_succ]
          refine wpAnyH_take (i := 4) (oi := { dst := some 199, op := Op.load 62 (Operand.tmp 198), type := 62, pos := "law.go:177", after := #[{ on := 3, ground := Ground.data }], guard := none }) (v := ?_) rfl (by kernel_rfl) (by kernel_rfl) (by kernel_rfl) (fun _ _ _ h => h) (Or.inl ⟨by rfl, ?_⟩) (by assumption) ?_
          rotate_left
          · intro W hSw; obtain ⟨c0, c1⟩ := FC.out W hSw; go_simp; try with_reducible rfl
          try simp only [Act.put, List.setIfInBounds_toArray, List.set_cons_zero, List.set_cons_succ]
          refine wpAnyH_take (i := 5) (oi := { dst := some 200, op := Op.move (Operand.tmp 10), type := 67, pos := "law.go:177", after := #[], guard := none }) (v := ?_) rfl (by kernel_rfl) (by kernel_rfl) (by kernel_rfl) (fun _ _ _ h => h) (Or.inl ⟨by rfl, ?_⟩) (by assumption) ?_
          rotate_left
          · intro W hSw; go_simp; try with_reducible rfl
          try simp only [Act.put, List.setIfInBounds_toArray, List.set_cons_zero, List.set_cons_succ]
          refine wpAnyH_take (i := 6) (oi := { dst := some 201, op := Op.move (Operand.tmp 22), type := 3, pos := "law.go:177", after := #[], guard := none }) (v := ?_) rfl (by kernel_rfl) (by kernel_rfl) (by kernel_rfl) (fun _ _ _ h => h) (Or.inl ⟨by rfl, ?_⟩) (by assumption) ?_
          rotate_left
          · intro W hSw; go_simp; try with_reducible rfl
          try simp only [Act.put, List.setIfInBounds_toArray, List.set_cons_zero, List.set_cons_succ]
          refine wpAnyH_take (i := 7) (oi := { dst := some 202, op := Op.indexAddr 67 (Operand.tmp 200) (Operand.tmp 201), type := 0, pos := "law.go:177", after := #[{ on := 5, ground := Ground.data }, { on := 6, ground := Ground.data }], guard := none }) (v := ?_) rfl (by kernel_rfl) (by kernel_rfl) (by kernel_rfl) (fun _ _ _ h => h) (Or.inl ⟨by rfl, ?_⟩) (by assumption) ?_
          rotate_left
          · intro W hSw; go_simp; try with_reducible rfl
          try simp only [Act.put, List.setIfInBounds_toArray, List.set_cons_zero, List.set_cons_succ]
          refine wpAnyH_take (i := 8) (oi := { dst := some 203, op := Op.load 3 (Operand.tmp 202), type := 3, pos := "law.go:177", after := #[{ on := 7, ground := Ground.data }], guard := none }) (v := ?_) rfl (by kernel_rfl) (by kernel_rfl) (by kernel_rfl) (fun _ _ _ h => h) (Or.inl ⟨by rfl, ?_⟩) (by assumption) ?_
          rotate_left
          · intro W hSw; obtain ⟨c0, c1⟩ := FC.out W hSw; go_simp; try with_reducible rfl
          try simp only [Act.put, List.setIfInBounds_toArray, List.set_cons_zero, List.set_cons_succ]
          refine wpAnyH_take (i := 9) (oi := { dst := some 204, op := Op.convert 3 62 (Operand.tmp 203), type := 62, pos := "law.go:177", after := #[{ on := 8, ground := Ground.data }], guard := none }) (v := ?_) rfl (by kernel_rfl) (by kernel_rfl) (by kernel_rfl) (fun _ _ _ h => h) (Or.inl ⟨by rfl, ?_⟩) (by assumption) ?_
          rotate_left
          · intro W hSw; go_simp; try with_reducible rfl
          try simp only [Act.put, List.setIfInBounds_toArray, List.set_cons_zero, List.set_cons_succ]
          refine wpAnyH_take (i := 10) (oi := { dst := some 205, op := Op.binOp BinOp.add 62 (Operand.tmp 199) (Operand.tmp 204) 62, type := 62, pos := "law.go:177", after := #[{ on := 4, ground := Ground.data }, { on := 9, ground := Ground.data }], guard := none }) (v := ?_) rfl (by kernel_rfl) (by kernel_rfl) (by kernel_rfl) (fun _ _ _ h => h) (Or.inl ⟨by rfl, ?_⟩) (by assumption) ?_
          rotate_left
          · intro W hSw; go_simp; try with_reducible rfl
          try simp only [Act.put, List.setIfInBounds_toArray, List.set_cons_zero, List.set_cons_succ]
          refine wpAnyH_take (i := 11) (oi := { dst := some 206, op := Op.binOp BinOp.sub 62 (Operand.tmp 205) (Operand.const (Value.int IntKind.u64 1)) 62, type := 62, pos := "law.go:177", after := #[{ on := 10, ground := Ground.data }], guard := none }) (v := ?_) rfl (by kernel_rfl) (by kernel_rfl) (by kernel_rfl) (fun _ _ _ h => h) (Or.inl ⟨by rfl, ?_⟩) (by assumption) ?_
          rotate_left
          · intro W hSw; go_simp; try with_reducible rfl
          try simp only [Act.put, List.setIfInBounds_toArray, List.set_cons_zero, List.set_cons_succ]
          refine wpAnyH_ready (rs := [12]) (by kernel_rfl) (by simp) ?_
          refine AllReadyH.cons (o := { dst := some 207, op := Op.call { callee := Callee.value (Operand.func 35), args := #[Operand.tmp 195, Operand.tmp 206], argTypes := #[56, 62] }, type := 70, pos := "law.go:177", after := #[{ on := 0, ground := Ground.data }, { on := 11, ground := Ground.data }], guard := none }) rfl (fun K hK => ?_) AllReadyH.nil
          go_simp
          refine (HLc.out _ hHeld).mono ?_; rintro r W5 ⟨rfl, hA5, hB5⟩
          go_wp2_with fail
          refine hK.out _ _ (step_below hHeld hB5) (fun hHeldn => ?_)
          clear hK K hHeld; have hHeld := hHeldn; clear hHeldn
          clear hA5 hB5
          try simp only [Act.put, List.setIfInBounds_toArray, List.set_cons_zero, List.set_cons_succ]
          refine wpAnyH_take (i := 13) (oi := { dst := some 194, op := Op.move (Operand.tmp 207), type := 70, pos := "law.go:177", after := #[{ on := 12, ground := Ground.data }], guard := none }) (v := ?_) rfl (by kernel_rfl) (by kernel_rfl) (by kernel_rfl) (fun _ _ _ h => h) (Or.inl ⟨by rfl, ?_⟩) (by assumption) ?_
          rotate_left
          · intro W hSw; go_simp; try with_reducible rfl
          try simp only [Act.put, List.setIfInBounds_toArray, List.set_cons_zero, List.set_cons_succ]
          refine wpAnyH_take (i := 14) (oi := { dst := some 208, op := Op.extract (Operand.tmp 194) 0, type := 62, pos := "law.go:177", after := #[{ on := 13, ground := Ground.data }], guard := none }) (v := ?_) rfl (by kernel_rfl) (by kernel_rfl) (by kernel_rfl) (fun _ _ _ h => h) (Or.inl ⟨by rfl, ?_⟩) (by assumption) ?_
          rotate_left
          · intro W hSw; go_simp; try with_reducible rfl
          try simp only [Act.put, List.setIfInBounds_toArray, List.set_cons_zero, List.set_cons_succ]
          refine wpAnyH_take (i := 15) (oi := { dst := some 209, op := Op.extract (Operand.tmp 194) 1, type := 24, pos := "law.go:177", after := #[{ on := 13, ground := Ground.data }, { on := 16, ground := Ground.gcOnly Departure.lateStores }], guard := none }) (v := ?_) rfl (by kernel_rfl) (by kernel_rfl) (by kernel_rfl) (fun _ _ _ h => h) (Or.inl ⟨by rfl, ?_⟩) (by assumption) ?_
          rotate_left
          · intro W hSw; go_simp; try with_reducible rfl
          try simp only [Act.put, List.setIfInBounds_toArray, List.set_cons_zero, List.set_cons_succ]
          refine wpAnyH_take (i := 16) (oi := { dst := some 23, op := Op.assign (Operand.tmp 208), type := 62, pos := "law.go:177", after := #[{ on := 14, ground := Ground.data }, { on := 12, ground := Ground.chain }, { on := 0, ground := Ground.phase }, { on := 1, ground := Ground.phase }, { on := 2, ground := Ground.phase }, { on := 3, ground := Ground.phase }, { on := 4, ground := Ground.phase }, { on := 5, ground := Ground.phase }, { on := 6, ground := Ground.phase }, { on := 7, ground := Ground.phase }, { on := 8, ground := Ground.phase }, { on := 9, ground := Ground.phase }, { on := 10, ground := Ground.phase }, { on := 11, ground := Ground.phase }, { on := 12, ground := Ground.phase }, { on := 13, ground := Ground.phase }, { on := 14, ground := Ground.phase }, { on := 15, ground := Ground.textOnly Departure.lateStores }], guard := none }) (v := ?_) rfl (by kernel_rfl) (by kernel_rfl) (by kernel_rfl) (fun _ _ _ h => h) (Or.inl ⟨by rfl, ?_⟩) (by assumption) ?_
          rotate_left
          · intro W hSw; go_simp; try with_reducible rfl
          try simp only [Act.put, List.setIfInBounds_toArray, List.set_cons_zero, List.set_cons_succ]
          refine wpAnyH_take (i := 17) (oi := { dst := some 24, op := Op.assign (Operand.tmp 209), type := 24, pos := "law.go:177", after := #[{ on := 15, ground := Ground.data }, { on := 16, ground := Ground.chain }, { on := 0, ground := Ground.phase }, { on := 1, ground := Ground.phase }, { on := 2, ground := Ground.phase }, { on := 3, ground := Ground.phase }, { on := 4, ground := Ground.phase }, { on := 5, ground := Ground.phase }, { on := 6, ground := Ground.phase }, { on := 7, ground := Ground.phase }, { on := 8, ground := Ground.phase }, { on := 9, ground := Ground.phase }, { on := 10, ground := Ground.phase }, { on := 11, ground := Ground.phase }, { on := 12, ground := Ground.phase }, { on := 13, ground := Ground.phase }, { on := 14, ground := Ground.phase }, { on := 15, ground := Ground.phase }, { on := 16, ground := Ground.phase }], guard := none }) (v := ?_) rfl (by kernel_rfl) (by kernel_rfl) (by kernel_rfl) (fun _ _ _ h => h) (Or.inl ⟨by rfl, ?_⟩) (by assumption) ?_
          rotate_left
          · intro W hSw; go_simp; try with_reducible rfl
          try simp only [Act.put, List.setIfInBounds_toArray, List.set_cons_zero, List.set_cons_succ]
          refine wpAnyH_done (by kernel_rfl) ?_ _
          clear w0 w1 w2
          have hb := hHeld
          obtain ⟨c0, c1⟩ := FC.out _ hHeld
          replace hHeld := Lib.hid hHeld
          clear hb
          go_wp2_with fail
          go_roundw
          case rel => exact ⟨j + 1, by omega, by go_num, Lib.hid (hS.out.below hHeld.out k (Nat.le_refl _))⟩
          case measure => simp [intOf]; omega
        · obtain rfl : j = P.length := by omega
          go_wp2_with fail
          refine (known_any wr hS.out.bel hS.out.bel.size).mono ?_
          rintro e w' ⟨rfl, hB2⟩
          replace hB2 := Lib.hid hB2
          go_wp2_with fail
          go_ret
          exact ⟨rfl, hB2.out⟩
end Go.Proofs.Ytbjhcbiihekceaa
