/- Disks: DiskNames. -/
import Derived.Test.YtbjhcbiihekceaaDd4
import Derived.BigQuiet
namespace Go.Proofs.Ytbjhcbiihekceaa
open Go.ChangeShapes Go.WideShapes Go.ChangeAt Go.RowKit Go.Maps
set_option linter.unusedVariables false
set_option linter.unusedSimpArgs false
theorem rd_any {w : World} {p bm room : Nat} {C : List CF} {O : Nat → Prop} (h : DC w p bm room C O) (s : ByteArray) (hs : s.size ≤ maxLen) (E : Int) (hE : (oneE C s : Int) = E) :
    Calls Try.prog 26 #[.pointer (some ⟨p, 0, none⟩), .string s] w fun e w' => ∃ v, e = .returned (.tuple #[v, .int .i64 E]) ∧ Below w.heap.size w w' := by
  subst hE
  exact (c_read h s hs).mono fun e w' ⟨v, a, _, b⟩ => ⟨v, a, b⟩
theorem ap_nil {w : World} {p bm : Nat} {C : List CF} {O : Nat → Prop} (h : DC w p bm 1024 C O) (s : ByteArray) (hs : s.size ≤ maxLen) (E : Int) (hE : appE 1024 C s 0 = E) :
    Calls Try.prog 27 #[.pointer (some ⟨p, 0, none⟩), .string s, .slice none 0 0] w fun e w' => e = .returned (.int .i64 E) ∧ Aft w w' p bm 1024 (appC 1024 C s []) O := by
  subst hE
  exact c_append h s hs none 0 0 [] rfl (by decide) (fun x hx => by cases hx) (Ls.nul _ _)
theorem rise_at {C : List CF} (h : C.Pairwise fun c d => bytesBefore c.1.data.toList d.1.data.toList = true) {j : Nat} {x y : CF} (hx : C[j]? = some x) (hy : C[j + 1]? = some y) : bytesBefore x.1.data.toList y.1.data.toList = true := by
  obtain ⟨h1, rfl⟩ := List.getElem?_eq_some_iff.1 hx
  obtain ⟨h2, rfl⟩ := List.getElem?_eq_some_iff.1 hy
  exact List.pairwise_iff_getElem.1 h j (j + 1) h1 h2 (Nat.lt_succ_self j)
theorem strs_row {w : World} {base n : Nat} {v : Value} {ns : List ByteArray} (h : w.ownsRow base 9 1 v n (ns.map fun s => .string s)) : ∃ a cap, v = .slice a n cap ∧ StrsAt w a ns := by
  have hlen : ns.length = n := by have := h.1; simpa using this
  by_cases hn : 0 < n
  · obtain ⟨g, cap, rfl, _, hc⟩ := row_cells h hn
    exact ⟨_, _, rfl, fun k s hk => ⟨g, 0, rfl, by rw [Nat.zero_add]; exact hc k (.string s) (by rw [List.getElem?_map, hk]; rfl)⟩⟩
  · have h0 : ns = [] := List.length_eq_zero_iff.1 (by omega)
    subst h0
    rcases h.2 with ⟨hv, h0⟩ | ⟨g, cap, cur, hv, _⟩
    · exact ⟨none, 0, by rw [hv]; congr, fun k s hk => by simp at hk⟩
    · exact ⟨_, cap, hv, fun k s hk => by simp at hk⟩
theorem names_of {w : World} {p bm room n : Nat} {C : List CF} {O : Nat → Prop} (h : DC w p bm room C O) (hn : C.length = n) :
    Calls Try.prog 22 #[.pointer (some ⟨p, 0, none⟩)] w fun e w' => ∃ a cap, e = .returned (.slice a n cap) ∧ StrsAt w' a (C.map (·.1)) ∧ Below w.heap.size w w' := by
  subst hn
  refine (c_names h).mono ?_
  rintro e w' ⟨v, rfl, ho, hb⟩
  obtain ⟨a, cap, rfl, hs⟩ := strs_row (ns := C.map (·.1)) (by rw [List.map_map]; exact ho)
  exact ⟨a, cap, rfl, hs, hb⟩
set_option maxRecDepth 8192 in
set_option maxHeartbeats 4000000 in
/-- DiskNames (6). -/
theorem names_law (a : Option Addr) (ss : List ByteArray) (len cap : Nat) (w : World) (hl : ss.length = len) (hc : StrsAt w a ss) (hs : ∀ s ∈ ss, s.size ≤ maxLen) (hm : len ≤ maxLen) : Calls Try.prog 6 #[.slice a len cap] w fun e w' => e = .returned (.bool true) ∧ Below w.heap.size w w' := by
  have HL := Lib.hid hl
  have HC := Lib.hid hc
  have HS := Lib.hid hs
  unfold maxLen at hm
  clear hl hc hs
  go_enter Try.func6, Try.ntmps6
  go_wp2
  go_loop [3, 4] (fun n i => ∃ (j : Nat) (v : Int), j ≤ len ∧ j ≤ 201 ∧ n = .int .i64 v ∧ i = .int .i64 j ∧ 0 ≤ v ∧ v ≤ 9001 * j) (fun _ i => len - (intOf i).toNat)
  case atStart => exact ⟨0, 0, Nat.zero_le _, by omega, rfl, rfl, by omega, by omega⟩
  case round =>
    obtain ⟨j, v, hj, hj2, rfl, rfl, hv0, hv1⟩ := hrel
    by_cases hlt : j < len ∧ j < 201
    · obtain ⟨s, hsj⟩ : ∃ s, ss[j]? = some s := ⟨_, List.getElem?_eq_getElem (by rw [HL.out]; exact hlt.1)⟩
      obtain ⟨sb, so, rfl, hcell⟩ := HC.out j s hsj
      have hsz := HS.out s (List.mem_of_getElem? hsj)
      unfold maxLen at hsz
      have d1 : (j : Int) < (len : Int) := by omega
      have d2 : (j : Int) < 201 := by omega
      obtain ⟨m, hmin⟩ : ∃ m : Int, min (s.size : Int) 9001 = m := ⟨_, rfl⟩
      have hm0 : 0 ≤ m := by omega
      have hm1 : m ≤ 9001 := by omega
      clear hsj
      go_wp2
      go_round
      case rel => exact ⟨j + 1, v + m, by omega, by omega, by go_num, by go_num, by omega, by omega⟩
      case measure => simp [intOf]; omega
    · by_cases hbig : 200 < len
      · have d3 : (200 : Int) < (len : Int) := by omega
        by_cases h1 : j < len
        · have d1 : (j : Int) < (len : Int) := by omega
          have d2 : ¬ (j : Int) < 201 := by omega
          go_wp2_with (go_at_call 15; refine (dknown_law _).mono ?_; rintro e w' ⟨rfl, hb⟩)
          go_ret
          exact ⟨rfl, hb⟩
        · have d1 : ¬ (j : Int) < (len : Int) := by omega
          go_wp2_with (go_at_call 15; refine (dknown_law _).mono ?_; rintro e w' ⟨rfl, hb⟩)
          go_ret
          exact ⟨rfl, hb⟩
      · have d3 : ¬ (200 : Int) < (len : Int) := by omega
        have d1 : ¬ (j : Int) < (len : Int) := by omega
        by_cases hv9 : 9000 < v
        · clear hlt hbig
          go_wp2_with (go_at_call 15; refine (dknown_law _).mono ?_; rintro e w' ⟨rfl, hb⟩)
          go_ret
          exact ⟨rfl, hb⟩
        · have hlen : len ≤ 200 := by omega
          clear hlt hbig
          go_wp2_with (first
            | (go_at_call 12; refine (c_new 1024 (by omega) (by omega) w).mono ?_; rintro e w1 ⟨rfl, hd, hb⟩; have HD := Lib.hid hd; have HB := Lib.hid hb; clear hd hb)
            | (go_at_call 14; refine (dnum_law _ _).mono ?_; rintro e w' ⟨rfl, rfl⟩))
          go_loopw [7, 8] (fun l i wr => ∃ (k : Nat) (C : List CF), k ≤ len ∧ l = .int .i64 C.length ∧ i = .int .i64 k ∧ Bare C ∧ DC wr (w.heap.size + 1) w.heap.size 1024 C (fun x => w.heap.size ≤ x) ∧ Below w.heap.size w wr) (fun _ i _ => len - (intOf i).toNat)
          case atStart => exact ⟨0, [], Nat.zero_le _, rfl, rfl, (fun c hc => by cases hc), HD.out, HB.out⟩
          case round =>
            obtain ⟨k, C, hk, rfl, rfl, hbare, hdc, hbw⟩ := hrel
            clear HD HB d1 d3 hv9 hv0 hv1 hj hj2
            have HBA := Lib.hid hbare
            have HDC := Lib.hid hdc
            have HBW := Lib.hid hbw
            clear hbare hdc hbw
            by_cases hlt : k < len
            · obtain ⟨s, hsj⟩ : ∃ s, ss[k]? = some s := ⟨_, List.getElem?_eq_getElem (by rw [HL.out]; exact hlt)⟩
              obtain ⟨sb, so, rfl, hcell⟩ := HC.out k s hsj
              have hsz := HS.out s (List.mem_of_getElem? hsj)
              have d1 : (k : Int) < (len : Int) := by omega
              have HSB := Lib.hid (cell_lt hcell)
              have c0 : wr.cell? ⟨sb, so + k, none⟩ = some (.string s) := (HBW.out.cell HSB.out).trans hcell
              have HBL := Lib.hid (cell_lt c0)
              have hc64 := HDC.out.few
              clear hcell hsj
              rcases names_round s HDC.out.apart HBA.out with ⟨m0, e1, e2, e3⟩ | ⟨m0, e1, e2, e3, e4⟩ | ⟨m0, e1, e4, e2, e3⟩ | ⟨m0, e1, e4, e2, e5, e3, e6⟩
              · have HE := Lib.hid (And.intro e1 (And.intro e2 e3))
                have HMB := Lib.hid m0
                clear m0 e1 e2 e3
                go_wp2_with fail
                refine (rd_any HDC.out s hsz 2 (by rw [HE.out.1]; rfl)).mono ?_
                rintro e w1 ⟨v1, rfl, hb⟩
                have HB1 := Lib.hid hb
                have c1 : w1.cell? ⟨sb, so + k, none⟩ = some (.string s) := (hb.cell HBL.out).trans c0
                clear hb c0
                go_wp2_with fail
                refine (ap_nil (HDC.out.below HB1.out) s hsz 2 HE.out.2.1).mono ?_
                rintro e w2 ⟨rfl, hA⟩
                have HA := Lib.hid hA
                have c2 : w2.cell? ⟨sb, so + k, none⟩ = some (.string s) := (World.cell?_of_block (w := w1) (hA.2.block sb (Nat.lt_of_lt_of_le HBL.out HB1.out.size) (fun e => by have := HSB.out; omega))).trans c1
                clear hA c1
                go_wp2_with fail
                refine (rd_any HA.out.1 s hsz 2 (by rw [HE.out.2.2, HE.out.1]; rfl)).mono ?_
                rintro e w3 ⟨v3, rfl, hb⟩
                have HB3 := Lib.hid hb
                have c3 : w3.cell? ⟨sb, so + k, none⟩ = some (.string s) := (hb.cell (Nat.lt_of_lt_of_le HBL.out (Nat.le_trans HB1.out.size HA.out.2.size))).trans c2
                clear hb c2
                go_wp2_with (first
                  | (go_at_call 28; refine (rmay_law s hsz _).mono ?_; rintro e w' ⟨rfl, rfl⟩; rw [HMB.out])
                  | (go_at_call 14; refine (dnum_law _ _).mono ?_; rintro e w' ⟨rfl, rfl⟩))
                go_roundw
                case rel => exact ⟨k + 1, C, by omega, rfl, by go_num, HBA.out, (HA.out.1.mono (fun x hx _ => by rcases hx with hx | hx; exact hx; have := HBW.out.size; have := HB1.out.size; show w.heap.size ≤ x; omega)).below HB3.out |> fun h => HE.out.2.2 ▸ h, (Off.below (HBW.out.trans (HB1.out.mono HBW.out.size)) HA.out.2 (by have := HBW.out.size; have := HB1.out.size; omega) (fun x hx => hx)).trans (HB3.out.mono (by have := HBW.out.size; have := HB1.out.size; have := HA.out.2.size; omega))⟩
                case measure => simp [intOf]; omega
              · have HE := Lib.hid (And.intro e1 (And.intro e2 (And.intro e3 e4)))
                have HMB := Lib.hid m0
                have HO2 := Lib.hid (one_after s m0 e1 e2)
                clear m0 e1 e2 e3 e4
                go_wp2_with fail
                refine (rd_any HDC.out s hsz 0 (by rw [HE.out.1]; rfl)).mono ?_
                rintro e w1 ⟨v1, rfl, hb⟩
                have HB1 := Lib.hid hb
                have c1 : w1.cell? ⟨sb, so + k, none⟩ = some (.string s) := (hb.cell HBL.out).trans c0
                clear hb c0
                go_wp2_with fail
                refine (ap_nil (HDC.out.below HB1.out) s hsz 0 HE.out.2.1).mono ?_
                rintro e w2 ⟨rfl, hA⟩
                have HA := Lib.hid hA
                have c2 : w2.cell? ⟨sb, so + k, none⟩ = some (.string s) := (World.cell?_of_block (w := w1) (hA.2.block sb (Nat.lt_of_lt_of_le HBL.out HB1.out.size) (fun e => by have := HSB.out; omega))).trans c1
                clear hA c1
                go_wp2_with fail
                refine (rd_any HA.out.1 s hsz 0 (by rw [HO2.out]; rfl)).mono ?_
                rintro e w3 ⟨v3, rfl, hb⟩
                have HB3 := Lib.hid hb
                have c3 : w3.cell? ⟨sb, so + k, none⟩ = some (.string s) := (hb.cell (Nat.lt_of_lt_of_le HBL.out (Nat.le_trans HB1.out.size HA.out.2.size))).trans c2
                clear hb c2
                go_wp2_with (first
                  | (go_at_call 28; refine (rmay_law s hsz _).mono ?_; rintro e w' ⟨rfl, rfl⟩; rw [HMB.out])
                  | (go_at_call 14; refine (dnum_law _ _).mono ?_; rintro e w' ⟨rfl, rfl⟩))
                go_roundw
                case rel => exact ⟨k + 1, appC 1024 C s [], by omega, by rw [HE.out.2.2.2], by go_num, HE.out.2.2.1, (HA.out.1.mono (fun x hx _ => by rcases hx with hx | hx; exact hx; have := HBW.out.size; have := HB1.out.size; show w.heap.size ≤ x; omega)).below HB3.out |> fun h => h, (Off.below (HBW.out.trans (HB1.out.mono HBW.out.size)) HA.out.2 (by have := HBW.out.size; have := HB1.out.size; omega) (fun x hx => hx)).trans (HB3.out.mono (by have := HBW.out.size; have := HB1.out.size; have := HA.out.2.size; omega))⟩
                case measure => simp [intOf]; omega
              · have HE := Lib.hid (And.intro e1 (And.intro e2 e3))
                have HMB := Lib.hid m0
                have d2 : ((C.length : Nat) : Int) = 64 := by omega
                clear m0 e1 e2 e3
                go_wp2_with fail
                refine (rd_any HDC.out s hsz 6 (by rw [HE.out.1]; rfl)).mono ?_
                rintro e w1 ⟨v1, rfl, hb⟩
                have HB1 := Lib.hid hb
                have c1 : w1.cell? ⟨sb, so + k, none⟩ = some (.string s) := (hb.cell HBL.out).trans c0
                clear hb c0
                go_wp2_with fail
                refine (ap_nil (HDC.out.below HB1.out) s hsz 5 HE.out.2.1).mono ?_
                rintro e w2 ⟨rfl, hA⟩
                have HA := Lib.hid hA
                have c2 : w2.cell? ⟨sb, so + k, none⟩ = some (.string s) := (World.cell?_of_block (w := w1) (hA.2.block sb (Nat.lt_of_lt_of_le HBL.out HB1.out.size) (fun e => by have := HSB.out; omega))).trans c1
                clear hA c1
                go_wp2_with fail
                refine (rd_any HA.out.1 s hsz 6 (by rw [HE.out.2.2, HE.out.1]; rfl)).mono ?_
                rintro e w3 ⟨v3, rfl, hb⟩
                have HB3 := Lib.hid hb
                have c3 : w3.cell? ⟨sb, so + k, none⟩ = some (.string s) := (hb.cell (Nat.lt_of_lt_of_le HBL.out (Nat.le_trans HB1.out.size HA.out.2.size))).trans c2
                clear hb c2
                go_wp2_with (first
                  | (go_at_call 28; refine (rmay_law s hsz _).mono ?_; rintro e w' ⟨rfl, rfl⟩; rw [HMB.out])
                  | (go_at_call 14; refine (dnum_law _ _).mono ?_; rintro e w' ⟨rfl, rfl⟩))
                go_roundw
                case rel => exact ⟨k + 1, C, by omega, by rw [e4]; rfl, by go_num, HBA.out, (HA.out.1.mono (fun x hx _ => by rcases hx with hx | hx; exact hx; have := HBW.out.size; have := HB1.out.size; show w.heap.size ≤ x; omega)).below HB3.out |> fun h => HE.out.2.2 ▸ h, (Off.below (HBW.out.trans (HB1.out.mono HBW.out.size)) HA.out.2 (by have := HBW.out.size; have := HB1.out.size; omega) (fun x hx => hx)).trans (HB3.out.mono (by have := HBW.out.size; have := HB1.out.size; have := HA.out.2.size; omega))⟩
                case measure => simp [intOf]; omega
              · have HE := Lib.hid (And.intro e1 (And.intro e2 (And.intro e3 (And.intro e5 e6))))
                have HMB := Lib.hid m0
                have d2 : ¬ ((C.length : Nat) : Int) = 64 := by omega
                clear m0 e1 e2 e3 e5 e6
                go_wp2_with fail
                refine (rd_any HDC.out s hsz 6 (by rw [HE.out.1]; rfl)).mono ?_
                rintro e w1 ⟨v1, rfl, hb⟩
                have HB1 := Lib.hid hb
                have c1 : w1.cell? ⟨sb, so + k, none⟩ = some (.string s) := (hb.cell HBL.out).trans c0
                clear hb c0
                go_wp2_with fail
                refine (ap_nil (HDC.out.below HB1.out) s hsz 0 HE.out.2.1).mono ?_
                rintro e w2 ⟨rfl, hA⟩
                have HA := Lib.hid hA
                have c2 : w2.cell? ⟨sb, so + k, none⟩ = some (.string s) := (World.cell?_of_block (w := w1) (hA.2.block sb (Nat.lt_of_lt_of_le HBL.out HB1.out.size) (fun e => by have := HSB.out; omega))).trans c1
                clear hA c1
                go_wp2_with fail
                refine (rd_any HA.out.1 s hsz 0 (by rw [HE.out.2.2.2.1]; rfl)).mono ?_
                rintro e w3 ⟨v3, rfl, hb⟩
                have HB3 := Lib.hid hb
                have c3 : w3.cell? ⟨sb, so + k, none⟩ = some (.string s) := (hb.cell (Nat.lt_of_lt_of_le HBL.out (Nat.le_trans HB1.out.size HA.out.2.size))).trans c2
                clear hb c2
                go_wp2_with (first
                  | (go_at_call 28; refine (rmay_law s hsz _).mono ?_; rintro e w' ⟨rfl, rfl⟩; rw [HMB.out])
                  | (go_at_call 14; refine (dnum_law _ _).mono ?_; rintro e w' ⟨rfl, rfl⟩))
                go_roundw
                case rel => exact ⟨k + 1, appC 1024 C s [], by omega, by rw [HE.out.2.2.2.2]; go_num, by go_num, HE.out.2.2.1, (HA.out.1.mono (fun x hx _ => by rcases hx with hx | hx; exact hx; have := HBW.out.size; have := HB1.out.size; show w.heap.size ≤ x; omega)).below HB3.out |> fun h => h, (Off.below (HBW.out.trans (HB1.out.mono HBW.out.size)) HA.out.2 (by have := HBW.out.size; have := HB1.out.size; omega) (fun x hx => hx)).trans (HB3.out.mono (by have := HBW.out.size; have := HB1.out.size; have := HA.out.2.size; omega))⟩
                case measure => simp [intOf]; omega
            · have d1 : ¬ (k : Int) < (len : Int) := by omega
              have hc64 := HDC.out.few
              have HRI := Lib.hid HDC.out.rise
              obtain ⟨n, hn⟩ : ∃ n, C.length = n := ⟨_, rfl⟩
              have HNL := Lib.hid hn
              rw [hn] at hc64 ⊢
              clear hn
              go_wp2_with (go_at_call 22; refine (names_of HDC.out HNL.out).mono ?_; rintro e w1 ⟨na, nc, rfl, hst, hb⟩; have HST := Lib.hid hst; have HB1 := Lib.hid hb; clear hst hb)
              go_loopw [15] (fun i wr => ∃ j : Nat, 1 ≤ j ∧ (j = 1 ∨ j ≤ n) ∧ i = .int .i64 j ∧ Below w1.heap.size w1 wr) (fun i _ => n - (intOf i).toNat)
              case atStart => exact ⟨1, Nat.le_refl _, Or.inl rfl, rfl, Below.refl _ _⟩
              case round =>
                obtain ⟨j, hj1, hj2, rfl, hbj⟩ := hrel
                have HBJ := Lib.hid hbj
                clear hbj
                by_cases hlt : j < n
                · obtain ⟨j0, rfl⟩ : ∃ j0, j = j0 + 1 := ⟨j - 1, by omega⟩
                  obtain ⟨x, hx⟩ : ∃ x, C[j0]? = some x := ⟨_, List.getElem?_eq_getElem (by rw [HNL.out]; omega)⟩
                  obtain ⟨y, hy⟩ : ∃ y, C[j0 + 1]? = some y := ⟨_, List.getElem?_eq_getElem (by rw [HNL.out]; omega)⟩
                  obtain ⟨gb, go, rfl, hxc⟩ := (HST.out.below HBJ.out) j0 x.1 (by rw [List.getElem?_map, hx]; rfl)
                  obtain ⟨gb', go', e, hyc⟩ := (HST.out.below HBJ.out) (j0 + 1) y.1 (by rw [List.getElem?_map, hy]; rfl)
                  cases e
                  have hless := less_of (rise_at HRI.out hx hy)
                  have d2 : ((j0 + 1 : Nat) : Int) < (n : Int) := by omega
                  have d3 : ((j0 + 1 : Nat) : Int) - 1 = (j0 : Int) := by omega
                  obtain ⟨x1, x2⟩ := x
                  obtain ⟨y1, y2⟩ := y
                  simp only at hxc hyc hless
                  clear hx hy
                  go_wp2
                  go_quiet (fail)
                  go_wp2
                  go_roundw
                  case rel => exact ⟨j0 + 1 + 1, by omega, Or.inr (by omega), by go_num, HBJ.out.trans ⟨rfl, rfl, rfl, Nat.le_refl _, fun _ _ => rfl⟩⟩
                  case measure => simp [intOf]; omega
                · have d2 : ¬ (j : Int) < (n : Int) := by omega
                  have HU := Lib.hid ((c_used ((HDC.out.below HB1.out).below HBJ.out)).mono (R' := fun e w' => e = .returned (.int .i64 0) ∧ Below wr.heap.size wr w') fun e w' h => ⟨by rw [h.1, HBA.out.sum]; rfl, h.2⟩)
                  have HBE := Lib.hid (step_below (step_below HBW.out HB1.out) HBJ.out)
                  go_wp2_with (first
                    | (go_at_call 23; refine HU.out.mono ?_; rintro e w2 ⟨rfl, hb⟩; have HB2 := Lib.hid (step_below HBE.out hb); clear hb)
                    | (go_at_call 15; refine (dknown_law _).mono ?_; rintro e w3 ⟨rfl, hb⟩; have HB3 := Lib.hid (step_below HB2.out hb); clear hb))
                  go_ret
                  exact ⟨rfl, HB3.out⟩
end Go.Proofs.Ytbjhcbiihekceaa
