/- Disks of the document: Crash. -/
import Derived.Test.YtbjhcbiihekceaaDfa
import Derived.Maps.AppendAt
namespace Go.Proofs.Ytbjhcbiihekceaa
open Go.ChangeShapes Go.WideShapes Go.ChangeAt Go.RowKit Go.Maps
set_option linter.unusedVariables false
set_option linter.unusedSimpArgs false
/-- How a crash of the document's ends. -/
def RCrash (w : World) (room : Nat) (C : List CF) (ks : List (ByteArray × Int)) (e : Ending) (w' : World) : Prop :=
  Below w.heap.size w w' ∧ ∃ p, e = .returned (.tuple #[.pointer p, .int .i64 (crE C ks)]) ∧ (crE C ks ≠ 0 → p = none) ∧ (crE C ks = 0 → ∃ q', p = some ⟨q', 0, none⟩ ∧ RDC w' q' room (C.map (cutV ks)) (fun k => w.heap.size ≤ k))
theorem rcrash_bad {w w' : World} {room : Nat} {C : List CF} {ks : List (ByteArray × Int)} (hb : Below w.heap.size w w') (h : ¬ KOk ks) : RCrash w room C ks (.returned (.tuple #[.pointer none, .int .i64 2])) w' := by
  have e2 : crE C ks = 2 := by unfold crE; rw [if_pos h]
  exact ⟨hb, none, by rw [e2]; rfl, fun _ => rfl, fun h => by rw [e2] at h; cases h⟩
theorem rcrash_no {w w' : World} {room : Nat} {C : List CF} {ks : List (ByteArray × Int)} (hb : Below w.heap.size w w') (h : KOk ks) (hn : ∃ k ∈ ks, (cFind C k.1).isNone = true) : RCrash w room C ks (.returned (.tuple #[.pointer none, .int .i64 6])) w' := by
  have e6 : crE C ks = 6 := by unfold crE; rw [if_neg (by simpa using h), if_pos hn]
  exact ⟨hb, none, by rw [e6]; rfl, fun _ => rfl, fun h => by rw [e6] at h; cases h⟩
/-- The files' rows lie elsewhere than the row of files. -/
def Apart (a : Option Addr) (M : List Fil) : Prop := ∀ g, a = some g → ∀ f ∈ M, ∀ b, f.ad = some b → b.block ≠ g.block
theorem rdk_new {W : World} {q room : Nat} (h : BoxC W q #[.int .i64 room, .slice none 0 0] 97) : RDk W q room [] none 0 := ⟨h, ⟨rfl, Or.inl ⟨rfl, rfl⟩⟩, by simp⟩
theorem cutM_zero (f : Fil) (ks : List (ByteArray × Int)) : cutM (ks.take 0) f = f.last := by
  show f.last + min (0 : Int).toNat _ = f.last
  simp
theorem loose_none {ks : List (ByteArray × Int)} {s : ByteArray} (h : kFind ks s = none) : loose ks s = 0 := by unfold loose; rw [h]; rfl
theorem cutM_hit {ks : List (ByteArray × Int)} {k : Nat} {kn : ByteArray} {kl : Int} {f : Fil} (hok : KOk ks) (hk : ks[k]? = some (kn, kl)) (he : kn = f.nm) (hl : f.last ≤ f.bs.length) :
    cutM (ks.take k) f = f.last ∧ (f.last : Int) + min kl ((f.bs.length : Int) - (f.last : Int)) = ((cutM (ks.take (k + 1)) f : Nat) : Int) := by
  have h1 := hok.sub (k + 1)
  rw [take_snoc hk] at h1
  obtain ⟨_, h2, _, h3⟩ := KOk.snoc.1 h1
  simp only at h2 h3
  subst he
  have e1 : loose (ks.take k) f.nm = 0 := loose_none h2
  have e2 : loose (ks.take (k + 1)) f.nm = kl := by
    unfold loose
    rw [take_snoc hk, kFind_snoc, h2]
    simp
  unfold cutM
  rw [e1, e2]
  exact ⟨by simp, by omega⟩
theorem cutM_miss {ks : List (ByteArray × Int)} {k : Nat} {kn : ByteArray} {kl : Int} {f : Fil} (hk : ks[k]? = some (kn, kl)) (he : ¬ kn = f.nm) : cutM (ks.take (k + 1)) f = cutM (ks.take k) f := by
  have : loose (ks.take (k + 1)) f.nm = loose (ks.take k) f.nm := by
    unfold loose
    rw [take_snoc hk, kFind_snoc, if_neg he]
    simp
  unfold cutM
  rw [this]
theorem step_append_fl_at {ops : Array Oper} {o : Oper} {a : Act} {w : World} {Kt : Act → World → Prop} {Q : Exit → Act → World → Prop} {Z : Prop} (hgd : o.guard = none) (s x : Operand)
    (ho : o.op = .call { callee := .builtin .append, args := #[s, x], argTypes := #[95, 95] })
    (base : Nat) (w0 : World) (hB0 : w0 = w) (v : Value) (n : Nat) (L : List Fil) (hs : a.eval s = v) (hown : w.ownsRow base 111 3 v n (fcs L))
    (ad : Addr) (c len : Nat) (M : List Fil) (hlen : M.length = len) (hx : a.eval x = .slice (some ad) len c) (hM : CellsL w (some ad) (fcs M))
    (hb : n + len ≤ 1000) (hbase : base ≤ w.heap.size)
    (h : ∀ v' w', w'.ownsRow base 111 3 v' (n + len) (fcs (L ++ M)) → w.grownBy w' v.ownBlock → (v'.ownBlock = v.ownBlock ∨ v'.ownBlock = some w.heap.size) → Kt (a.put o.dst v') w') :
    if Region.wanted o (yielded ops a.tmps) = true then Oper.wp Try.prog o a w Kt Q else Z := by
  subst hB0 hlen
  have hw : Region.wanted o (yielded ops a.tmps) = true := by simp [Region.wanted, hgd]
  rw [if_pos hw]
  obtain ⟨i0, hi, hz0, hz1, hz2⟩ := info_parts inf111
  obtain ⟨v', w', h1, h2, h3, _, h5⟩ := run_append_own_at (P := Try.prog) w0 base 95 o.type 111 i0 _ 3 48 Try.underlying95 hi hz0 hz1 hz2 rfl (by decide) v n (fcs L) hown ad M.length c (fcs M) (by rw [fcs_length]) (by
      intro j u hj
      obtain ⟨b, off, e, hc⟩ := hM j u hj
      cases e
      rw [addr_add]
      exact hc) (fc_one M) (by unfold maxLen; omega) (Nat.le_trans (Nat.mul_le_mul_right _ hb) (by decide)) hbase
  rw [← fcs_append] at h2
  unfold Oper.wp execOp
  simp only [ho, resolve, invoke, builtin, Sem.run_bind, Sem.run_pure, Result.andThen_ok, List.map_toArray, List.map_cons, List.map_nil, hs, hx, h1]
  exact h v' w' h2 h3 h5
theorem off_grown1 {W W' : World} {a : Option Addr} {n c : Nat} (h : W.grownBy W' (Value.slice a n c).ownBlock) : Off (fun k => ∃ g, a = some g ∧ g.block = k) W W' :=
  ⟨h.os, h.tape, h.output, h.size, fun k hk hn => h.block k hk fun e => hn (by
    cases a with
    | none => cases e
    | some g => exact ⟨g, rfl, by cases e; rfl⟩)⟩
theorem where_at {a a3 : Option Addr} {n c n3 c3 B : Nat} (h : (Value.slice a3 n3 c3).ownBlock = (Value.slice a n c).ownBlock ∨ (Value.slice a3 n3 c3).ownBlock = some B) : ∀ g, a3 = some g → (∃ g0, a = some g0 ∧ g0.block = g.block) ∨ g.block = B := fun g e => by
  subst e
  rcases h with h | h
  · left
    cases a with
    | none => cases h
    | some g0 => exact ⟨g0, rfl, by injection h with h; exact h.symm⟩
  · right; injection h
theorem rdk_app {W X : World} {q room : Nat} {M : List Fil} {a3 : Option Addr} {cap3 n : Nat} {v0 : Value} (hb : BoxC W q #[.int .i64 room, v0] 97) (ho : W.ownsRow (q + 1) 111 3 (.slice a3 n cap3) n (fcs M)) (hr : ∀ f ∈ M, Ls .u8 W f.ad f.cap f.bs ∧ ∀ b, f.ad = some b → q < b.block ∧ b.block < W.heap.size) (hX : W.setCell ⟨q, 1, none⟩ (.slice a3 n cap3) = X) : RDk X q room M a3 cap3 := by
  subst hX
  have hn : M.length = n := by have := ho.1; rw [fcs_length] at this; omega
  subst hn
  have o : Off (fun k => k = q) W (W.setCell ⟨q, 1, none⟩ (.slice a3 M.length cap3)) := Off.set (S := fun k => k = q) (Off.refl _ W) ⟨q, 1, none⟩ rfl _
  refine ⟨hb.put 1 _, own_off ho o fun g k c e hk => ?_, fun f hf => ⟨(hr f hf).1.any o fun b e hk => ?_, fun b e => ⟨((hr f hf).2 b e).1, Nat.lt_of_lt_of_le ((hr f hf).2 b e).2 o.size⟩⟩⟩
  · obtain ⟨a', cap', e2, _, _, _, h5⟩ := own_cells ho
    injection e2 with e3
    injection e with e4
    have := (h5 g (e3 ▸ e4)).1
    omega
  · have := ((hr f hf).2 b e).1
    omega
theorem cells_new1 (w : World) (x : Fil) (fr : Nat × Nat) {m : Nat} (hm : x.bs.length = m) : CellsL (w.alloc (.cells #[.string x.nm, .slice x.ad m x.cap, .int .i64 x.last] 111 fr)) (some ⟨w.heap.size, 0, none⟩) (fcs [x]) := by subst hm; exact cells_new w x fr
theorem kfind_take {ks : List (ByteArray × Int)} {i : Nat} {s : ByteArray} (h : ∀ j < i, ∀ k, ks[j]? = some k → k.1 ≠ s) : kFind (ks.take i) s = none := kFind_none.2 fun k hk => by
  obtain ⟨j, hj⟩ := List.getElem?_of_mem hk
  rw [List.getElem?_take] at hj
  split at hj
  · rename_i hlt
    exact h j hlt k hj
  · cases hj
set_option maxRecDepth 8192 in
set_option maxHeartbeats 4000000 in
/-- Crash (53). -/
theorem r_crash {w : World} {q room : Nat} {C : List CF} {O : Nat → Prop} (h : RDC w q room C O) (hf : Fine room C) (ad : Option Addr) (ks : List (ByteArray × Int)) (n cp : Nat) (hn : ks.length = n) (hK : Kps w ad ks) (hKs : ∀ k ∈ ks, k.1.size ≤ maxLen) (hKl : n ≤ 1000000) :
    Calls Try.prog 53 #[.pointer (some ⟨q, 0, none⟩), .slice ad n cp] w (RCrash w room C ks) := by
  obtain ⟨L, a, cap, hr, rfl, hO⟩ := h
  have H := Lib.hid hr
  have hl := len_fine hf
  have HA := Lib.hid hf.apart
  have HNF := Lib.hid (nm_fine hf)
  have HLN := Lib.hid (fun f hm => len_fine2 hf (f := f) hm)
  have HN := Lib.hid hn
  have HK := Lib.hid hK
  have HS := Lib.hid hKs
  clear hr hO hf hn hK hKs
  go_enter Try.func53, Try.ntmps53
  go_wp2
  go_loopw [6] (fun i wr => ∃ j : Nat, j ≤ n ∧ i = .int .i64 (j : Int) ∧ KOk (ks.take j) ∧ Below w.heap.size w wr) (fun i _ => n - (intOf i).toNat)
  case atStart => exact ⟨0, Nat.zero_le _, rfl, KOk.nil, Below.refl _ _⟩
  case round =>
    obtain ⟨j, hj, rfl, hok, hb⟩ := hrel
    have HOK := Lib.hid hok
    have HB := Lib.hid hb
    clear hok hb
    by_cases hlt : j < n
    · obtain ⟨k, hkj⟩ : ∃ k, ks[j]? = some k := ⟨_, List.getElem?_eq_getElem (by rw [HN.out]; exact hlt)⟩
      obtain ⟨kb, ko, rfl, c1, c2⟩ := (HK.out.below HB.out) j k hkj
      have hks := HS.out k (List.mem_of_getElem? hkj)
      have HKJ := Lib.hid hkj
      clear hkj
      have hj2 : (j : Int) < (n : Int) := by omega
      have HMY := Lib.hid (rmay_law k.1 hks wr)
      obtain ⟨kn, kl⟩ := k
      simp only at *
      by_cases h2 : mayB kn = true
      · by_cases h3 : kl < 0
        · have HBAD := Lib.hid (KOk.not_at HKJ.out (fun ⟨_, _, h⟩ => by simp only at h; omega))
          have H2 := Lib.hid h2
          clear h2
          go_wp2_with (go_at_call 28; refine HMY.out.mono ?_; rintro e w' ⟨rfl, rfl⟩; rw [H2.out])
          go_ret2
          exact rcrash_bad HB.out HBAD.out
        · have H2 := Lib.hid h2
          clear h2
          go_wp2_with (go_at_call 28; refine HMY.out.mono ?_; rintro e w' ⟨rfl, rfl⟩; rw [H2.out])
          have H3 := Lib.hid (show 0 ≤ kl by omega)
          generalize wr = wa at *
          clear h3 c2
          go_loopw [7] (fun t wq => ∃ i : Nat, i ≤ j ∧ t = .int .i64 (i : Int) ∧ Below wa.heap.size wa wq ∧ Hid (∀ m < i, ∀ k, ks[m]? = some k → k.1 ≠ kn)) (fun t _ => j - (intOf t).toNat)
          case atStart => exact ⟨0, Nat.zero_le _, rfl, Below.refl _ _, Lib.hid (fun m hm => absurd hm (by omega))⟩
          case round =>
            obtain ⟨i, hi, rfl, hbq, HP⟩ := hrel
            have HBQ := Lib.hid hbq
            have c3 : wr.cell? ⟨kb, ko + j * 2, none⟩ = some (.string kn) := (hbq.cell (cell_lt c1)).trans c1
            clear hbq
            by_cases hij : i < j
            · have hij2 : (i : Int) < (j : Int) := by omega
              have hin2 : (i : Int) < (n : Int) := by omega
              obtain ⟨k2, hk2⟩ : ∃ k, ks[i]? = some k := ⟨_, List.getElem?_eq_getElem (by rw [HN.out]; omega)⟩
              obtain ⟨kb2, ko2, e, c4, c5⟩ := ((HK.out.below HB.out).below HBQ.out) i k2 hk2
              cases e
              have HK2 := Lib.hid hk2
              clear hk2 c5
              obtain ⟨kn2, kl2⟩ := k2
              simp only at c4
              by_cases he : kn2 = kn
              · have d1 : (kn2.toList == kn.toList) = true := by rw [str_eq, decide_eq_true he]
                have HBAD := Lib.hid (KOk.not_at HKJ.out (fun ⟨h1, _, _⟩ => kFind_none.1 h1 (kn2, kl2) (by
                  rw [List.mem_iff_getElem?]
                  exact ⟨i, by rw [List.getElem?_take, if_pos hij]; exact HK2.out⟩) he))
                clear he
                go_wp2
                go_quiet (fail)
                go_wp2
                go_ret2
                exact rcrash_bad ((step_below HB.out HBQ.out).trans ⟨rfl, rfl, rfl, Nat.le_refl _, fun _ _ => rfl⟩) HBAD.out
              · have d1 : (kn2.toList == kn.toList) = false := by rw [str_eq, decide_eq_false he]
                have HE := Lib.hid he
                clear he
                go_wp2
                go_quiet (fail)
                go_wp2
                go_roundw
                case rel =>
                  refine ⟨i + 1, by omega, by go_num, HBQ.out.trans ⟨rfl, rfl, rfl, Nat.le_refl _, fun _ _ => rfl⟩, Lib.hid (fun m hm k hk => ?_)⟩
                  by_cases e : m = i
                  · subst e
                    rw [HK2.out] at hk; cases hk; exact HE.out
                  · exact HP.out m (by omega) k hk
                case measure => simp [intOf]; omega
            · have hij2 : ¬ (i : Int) < (j : Int) := by omega
              have HG := Lib.hid (KOk.at HKJ.out HOK.out (kfind_take (fun m hm => HP.out m (by omega))) H2.out H3.out)
              go_wp2
              go_roundw
              case rel => exact ⟨j + 1, by omega, by go_num, HG.out, step_below HB.out HBQ.out⟩
              case measure => simp [intOf]; omega
      · have h2' : mayB kn = false := by simpa using h2
        have HBAD := Lib.hid (KOk.not_at HKJ.out (fun ⟨_, h, _⟩ => h2 h))
        have H2 := Lib.hid h2'
        clear h2 h2'
        go_wp2_with (go_at_call 28; refine HMY.out.mono ?_; rintro e w' ⟨rfl, rfl⟩; rw [H2.out])
        go_ret2
        exact rcrash_bad HB.out HBAD.out
    · have hj2 : ¬ (j : Int) < (n : Int) := by omega
      have ht : ks.take j = ks := List.take_of_length_le (by rw [HN.out]; omega)
      rw [ht] at HOK
      clear ht hj hlt
      generalize wr = wa at *
      have c0 := (H.out.below HB.out).c0
      obtain ⟨Wq, hWq⟩ : ∃ Wq, wa.alloc (.cells #[.int .i64 room, .slice none 0 0] 97) = Wq := ⟨_, rfl⟩
      have hbq : Below wa.heap.size wa Wq := by rw [← hWq]; exact bl1 _ _
      have bxq : BoxC Wq wa.heap.size #[.int .i64 room, .slice none 0 0] 97 := by rw [← hWq]; exact BoxC.new _ _ _
      have HBQ := Lib.hid (step_below HB.out hbq)
      have BQ := Lib.hid bxq
      have HWQ := Lib.hid HB.out.size
      clear hbq bxq
      go_wp2
      clear c0 hWq hj2
      go_loop [9] (fun t => ∃ i : Nat, i ≤ n ∧ t = .int .i64 (i : Int) ∧ Hid (∀ m < i, ∀ k, ks[m]? = some k → (cFind (L.map core) k.1).isNone = false)) (fun t => n - (intOf t).toNat)
      case atStart => exact ⟨0, Nat.zero_le _, rfl, Lib.hid (fun m hm => absurd hm (by omega))⟩
      case round =>
        obtain ⟨i, hi, rfl, HP⟩ := hrel
        by_cases hin : i < n
        · have hin2 : (i : Int) < (n : Int) := by omega
          obtain ⟨k, hk⟩ : ∃ k, ks[i]? = some k := ⟨_, List.getElem?_eq_getElem (by rw [HN.out]; exact hin)⟩
          obtain ⟨kb, ko, rfl, c1, c2⟩ := (HK.out.below HBQ.out) i k hk
          have HK2 := Lib.hid hk
          have HFD := Lib.hid (rfind_law (H.out.below HBQ.out) hl k.1)
          clear hk c2
          go_wp2_with fail
          refine HFD.out.mono ?_
          rintro e w' ⟨⟨r, rfl, hFI⟩, rfl⟩
          rcases hFI with ⟨x, f, hx1, hx2, rfl⟩ | ⟨hx1, rfl⟩
          · have HFO := Lib.hid (show (cFind (L.map core) k.1).isNone = false by rw [(old_at HA.out hx1 hx2).1]; rfl)
            have hx0 : ¬ (x : Int) < 0 := by omega
            clear hx1 hx2
            go_wp2
            go_round
            case rel =>
              refine ⟨i + 1, by omega, by go_num, Lib.hid (fun m hm k' hk' => ?_)⟩
              by_cases e : m = i
              · subst e
                rw [HK2.out] at hk'; cases hk'; exact HFO.out
              · exact HP.out m (by omega) k' hk'
            case measure => simp [intOf]; omega
          · have hnone : cFind (L.map core) k.1 = none := cFind_none.2 fun c hc => by
              obtain ⟨f, hf, rfl⟩ := List.mem_map.1 hc
              exact hx1 f hf
            have HNO := Lib.hid (show ∃ k ∈ ks, (cFind (L.map core) k.1).isNone = true from ⟨k, List.mem_of_getElem? HK2.out, by rw [hnone]; rfl⟩)
            clear hnone
            clear hx1
            go_wp2
            go_ret2
            exact rcrash_no HBQ.out HOK.out HNO.out
        · have hin2 : ¬ (i : Int) < (n : Int) := by omega
          have HALL := Lib.hid (show ∀ k ∈ ks, (cFind (L.map core) k.1).isNone = false from fun k hk => by
            obtain ⟨m, hm⟩ := List.getElem?_of_mem hk
            have := (List.getElem?_eq_some_iff.1 hm).1
            rw [HN.out] at this
            exact HP.out m (by omega) k hm)
          clear hin hi
          obtain ⟨ln, hln⟩ : ∃ ln, L.length = ln := ⟨_, rfl⟩
          have HLL := Lib.hid hln
          rw [hln] at hl
          clear hln
          go_wp2
          clear hin2
          go_loopw [10] (fun t wr => ∃ (i : Nat) (M : List Fil) (a' : Option Addr) (cap' : Nat), i ≤ ln ∧ t = .int .i64 (i : Int) ∧ M.length = i ∧ RDk wr wa.heap.size room M a' cap' ∧ M.map core = (L.take i).map (cutC ks) ∧ Below w.heap.size w wr ∧ Apart a' M) (fun t _ => ln - (intOf t).toNat)
          case atStart => exact ⟨0, [], none, 0, Nat.zero_le _, rfl, rfl, rdk_new BQ.out, rfl, HBQ.out, fun g e => by cases e⟩
          case round =>
            obtain ⟨i, M, a', cap', hi, rfl, hML, hrm, hcm, hbw, hap⟩ := hrel
            have HRM := Lib.hid hrm
            have HCM := Lib.hid hcm
            have HBW := Lib.hid hbw
            have HAP := Lib.hid hap
            have HML := Lib.hid hML
            have hc1 := (H.out.below hbw).c1
            rw [HLL.out] at hc1
            clear hrm hcm hbw hap hML
            by_cases hil : i < ln
            · have hil2 : (i : Int) < (ln : Int) := by omega
              obtain ⟨f, hf⟩ : ∃ f, L[i]? = some f := ⟨_, List.getElem?_eq_getElem (by rw [HLL.out]; exact hil)⟩
              obtain ⟨g, rfl, hg, x1, x2, x3⟩ := (H.out.below HBW.out).file hf
              have HFI := Lib.hid hf
              have hfm := List.mem_of_getElem? hf
              have hfl := HLN.out f hfm
              have hla := (HNF.out f hfm).2.2.2
              have HFM := Lib.hid hfm
              clear hf hfm
              obtain ⟨W1, hW1⟩ : ∃ W1, wr.alloc (.cells #[.string f.nm, .slice f.ad f.bs.length f.cap, .int .i64 f.last] 111) = W1 := ⟨_, rfl⟩
              have hb1 : Below wr.heap.size wr W1 := by rw [← hW1]; exact bl1 _ _
              have hbx : BoxC W1 wr.heap.size #[.string f.nm, .slice f.ad f.bs.length f.cap, .int .i64 f.last] 111 := by rw [← hW1]; exact BoxC.new _ _ _
              have HB1 := Lib.hid hb1
              have BX := Lib.hid hbx
              have z2 : W1.cell? ⟨wr.heap.size, 2, none⟩ = some (.int .i64 f.last) := hbx.cell 2
              clear hb1 hbx
              go_wp2
              clear z2 hW1 x1 x2 x3 hc1
              generalize wr = wb at *
              go_loopw [12, 13] (fun t u wq => ∃ k : Nat, k ≤ n ∧ u = .int .i64 (k : Int) ∧ t = .int .i64 ((cutM (ks.take k) f : Nat) : Int) ∧ Below W1.heap.size W1 wq) (fun _ u _ => n - (intOf u).toNat)
              case atStart => exact ⟨0, Nat.zero_le _, rfl, by rw [cutM_zero], Below.refl _ _⟩
              case round =>
                obtain ⟨k, hk, rfl, rfl, hbq⟩ := hrel
                have HBQ1 := Lib.hid hbq
                have y0 : wr.cell? ⟨wb.heap.size, 0, none⟩ = some (.string f.nm) := (BX.out.below hbq).cell 0
                have y1 : wr.cell? ⟨wb.heap.size, 1, none⟩ = some (.slice f.ad f.bs.length f.cap) := (BX.out.below hbq).cell 1
                have y2 : wr.cell? ⟨wb.heap.size, 2, none⟩ = some (.int .i64 f.last) := (BX.out.below hbq).cell 2
                clear hbq
                by_cases hkn : k < n
                · have hkn2 : (k : Int) < (n : Int) := by omega
                  obtain ⟨kk, hkk⟩ : ∃ kk, ks[k]? = some kk := ⟨_, List.getElem?_eq_getElem (by rw [HN.out]; exact hkn)⟩
                  obtain ⟨kb, ko, rfl, c4, c5⟩ := (HK.out.below (step_below HBW.out (step_below HB1.out HBQ1.out))) k kk hkk
                  have HKK := Lib.hid hkk
                  clear hkk
                  obtain ⟨kn, kl⟩ := kk
                  simp only at c4 c5
                  by_cases he : kn = f.nm
                  · have d1 : (kn.toList == f.nm.toList) = true := by rw [str_eq, decide_eq_true he]
                    obtain ⟨hc1, hc2⟩ := cutM_hit HOK.out HKK.out he hla
                    have HC2 := Lib.hid hc2
                    rw [hc1]
                    clear hc1 hc2 he
                    go_wp2
                    go_quiet (fail)
                    have hb5 := below_drewN (Below.refl wr.heap.size wr) nq
                    have HBQ2 := Lib.hid (HBQ1.out.trans (hb5.mono HBQ1.out.size))
                    have c5' := (hb5.cell (cell_lt c5)).trans c5
                    have FX0 := And.intro ((hb5.cell (cell_lt y1)).trans y1) ((hb5.cell (cell_lt y2)).trans y2)
                    clear y0 y1 y2 c4 c5 d1 HBQ1 hb5
                    generalize wr.drewN nq = wr at *
                    have FX := Lib.hid (fun X (b : Below wr.heap.size wr X) => (⟨(b.cell (cell_lt c5')).trans c5', (b.cell (cell_lt FX0.1)).trans FX0.1, (b.cell (cell_lt FX0.2)).trans FX0.2⟩ : X.cell? ⟨kb, ko + k * 2 + 1, none⟩ = some (.int .i64 kl) ∧ X.cell? ⟨wb.heap.size, 1, none⟩ = some (.slice f.ad f.bs.length f.cap) ∧ X.cell? ⟨wb.heap.size, 2, none⟩ = some (.int .i64 f.last)))
                    have hkl : 0 ≤ kl := (HOK.out.each _ (List.mem_of_getElem? HKK.out)).2
                    have HWS := Lib.hid (show IntKind.i64.wrap ((f.bs.length : Int) - (f.last : Int)) = (f.bs.length : Int) - (f.last : Int) ∧ IntKind.i64.wrap ((f.last : Int) + min kl ((f.bs.length : Int) - (f.last : Int))) = (f.last : Int) + min kl ((f.bs.length : Int) - (f.last : Int)) from ⟨by rw [IntKind.wrap_i64] <;> omega, by rw [IntKind.wrap_i64] <;> omega⟩)
                    clear c5' FX0 hkl
                    go_wp2
                    refine wp_region_held_drew (S := (fun X => Below wr.heap.size wr X)) (by kernel_rfl) ((Below.refl _ _).drew) (fun hHeld => ?_)
                    refine wpAnyH_take (i := 0) (oi := { dst := some 105, op := Op.move (Operand.tmp 12), type := 3, pos := "ref.go:201", after := #[], guard := none }) (v := ?_) rfl (by kernel_rfl) (by kernel_rfl) (by kernel_rfl) (fun _ _ _ h => h) (Or.inl ⟨by rfl, ?_⟩) (by assumption) ?_
                    rotate_left
                    · intro W hSw; go_simp; try with_reducible rfl
                    try simp only [Act.put, List.setIfInBounds_toArray, List.set_cons_zero, List.set_cons_succ]
                    refine wpAnyH_take (i := 1) (oi := { dst := some 106, op := Op.move (Operand.tmp 1), type := 35, pos := "ref.go:201", after := #[], guard := none }) (v := ?_) rfl (by kernel_rfl) (by kernel_rfl) (by kernel_rfl) (fun _ _ _ h => h) (Or.inl ⟨by rfl, ?_⟩) (by assumption) ?_
                    rotate_left
                    · intro W hSw; go_simp; try with_reducible rfl
                    try simp only [Act.put, List.setIfInBounds_toArray, List.set_cons_zero, List.set_cons_succ]
                    refine wpAnyH_take (i := 2) (oi := { dst := some 107, op := Op.move (Operand.tmp 13), type := 3, pos := "ref.go:201", after := #[], guard := none }) (v := ?_) rfl (by kernel_rfl) (by kernel_rfl) (by kernel_rfl) (fun _ _ _ h => h) (Or.inl ⟨by rfl, ?_⟩) (by assumption) ?_
                    rotate_left
                    · intro W hSw; go_simp; try with_reducible rfl
                    try simp only [Act.put, List.setIfInBounds_toArray, List.set_cons_zero, List.set_cons_succ]
                    refine wpAnyH_take (i := 3) (oi := { dst := some 108, op := Op.indexAddr 35 (Operand.tmp 106) (Operand.tmp 107), type := 0, pos := "ref.go:201", after := #[{ on := 1, ground := Ground.data }, { on := 2, ground := Ground.data }], guard := none }) (v := ?_) rfl (by kernel_rfl) (by kernel_rfl) (by kernel_rfl) (fun _ _ _ h => h) (Or.inl ⟨by rfl, ?_⟩) (by assumption) ?_
                    rotate_left
                    · intro W hSw; go_simp; try with_reducible rfl
                    try simp only [Act.put, List.setIfInBounds_toArray, List.set_cons_zero, List.set_cons_succ]
                    refine wpAnyH_take (i := 4) (oi := { dst := some 109, op := Op.fieldAddr 101 (Operand.tmp 108) 1, type := 0, pos := "ref.go:201", after := #[{ on := 3, ground := Ground.data }], guard := none }) (v := ?_) rfl (by kernel_rfl) (by kernel_rfl) (by kernel_rfl) (fun _ _ _ h => h) (Or.inl ⟨by rfl, ?_⟩) (by assumption) ?_
                    rotate_left
                    · intro W hSw; go_simp; try with_reducible rfl
                    try simp only [Act.put, List.setIfInBounds_toArray, List.set_cons_zero, List.set_cons_succ]
                    refine wpAnyH_take (i := 5) (oi := { dst := some 110, op := Op.load 3 (Operand.tmp 109), type := 3, pos := "ref.go:201", after := #[{ on := 4, ground := Ground.data }], guard := none }) (v := ?_) rfl (by kernel_rfl) (by kernel_rfl) (by kernel_rfl) (fun _ _ _ h => h) (Or.inl ⟨by rfl, ?_⟩) (by assumption) ?_
                    rotate_left
                    · intro W hSw; obtain ⟨a0, a1, a2⟩ := FX.out W hSw; go_simp; try with_reducible rfl
                    try simp only [Act.put, List.setIfInBounds_toArray, List.set_cons_zero, List.set_cons_succ]
                    refine wpAnyH_take (i := 6) (oi := { dst := some 111, op := Op.fieldAddr 111 (Operand.tmp 11) 1, type := 0, pos := "ref.go:201", after := #[], guard := none }) (v := ?_) rfl (by kernel_rfl) (by kernel_rfl) (by kernel_rfl) (fun _ _ _ h => h) (Or.inl ⟨by rfl, ?_⟩) (by assumption) ?_
                    rotate_left
                    · intro W hSw; go_simp; try with_reducible rfl
                    try simp only [Act.put, List.setIfInBounds_toArray, List.set_cons_zero, List.set_cons_succ]
                    refine wpAnyH_take (i := 7) (oi := { dst := some 112, op := Op.load 34 (Operand.tmp 111), type := 34, pos := "ref.go:201", after := #[{ on := 6, ground := Ground.data }], guard := none }) (v := ?_) rfl (by kernel_rfl) (by kernel_rfl) (by kernel_rfl) (fun _ _ _ h => h) (Or.inl ⟨by rfl, ?_⟩) (by assumption) ?_
                    rotate_left
                    · intro W hSw; obtain ⟨a0, a1, a2⟩ := FX.out W hSw; go_simp; try with_reducible rfl
                    try simp only [Act.put, List.setIfInBounds_toArray, List.set_cons_zero, List.set_cons_succ]
                    refine wpAnyH_take (i := 8) (oi := { dst := some 113, op := Op.call { callee := Callee.builtin Builtin.len, args := #[Operand.tmp 112], argTypes := #[34] }, type := 3, pos := "ref.go:201", after := #[{ on := 7, ground := Ground.data }], guard := none }) (v := ?_) rfl (by kernel_rfl) (by kernel_rfl) (by kernel_rfl) (fun _ _ _ h => h) (Or.inl ⟨by rfl, ?_⟩) (by assumption) ?_
                    rotate_left
                    · intro W hSw; go_simp; try with_reducible rfl
                    try simp only [Act.put, List.setIfInBounds_toArray, List.set_cons_zero, List.set_cons_succ]
                    refine wpAnyH_take (i := 9) (oi := { dst := some 114, op := Op.fieldAddr 111 (Operand.tmp 11) 2, type := 0, pos := "ref.go:201", after := #[], guard := none }) (v := ?_) rfl (by kernel_rfl) (by kernel_rfl) (by kernel_rfl) (fun _ _ _ h => h) (Or.inl ⟨by rfl, ?_⟩) (by assumption) ?_
                    rotate_left
                    · intro W hSw; go_simp; try with_reducible rfl
                    try simp only [Act.put, List.setIfInBounds_toArray, List.set_cons_zero, List.set_cons_succ]
                    refine wpAnyH_take (i := 10) (oi := { dst := some 115, op := Op.load 3 (Operand.tmp 114), type := 3, pos := "ref.go:201", after := #[{ on := 9, ground := Ground.data }], guard := none }) (v := ?_) rfl (by kernel_rfl) (by kernel_rfl) (by kernel_rfl) (fun _ _ _ h => h) (Or.inl ⟨by rfl, ?_⟩) (by assumption) ?_
                    rotate_left
                    · intro W hSw; obtain ⟨a0, a1, a2⟩ := FX.out W hSw; go_simp; try with_reducible rfl
                    try simp only [Act.put, List.setIfInBounds_toArray, List.set_cons_zero, List.set_cons_succ]
                    refine wpAnyH_take (i := 11) (oi := { dst := some 116, op := Op.binOp BinOp.sub 3 (Operand.tmp 113) (Operand.tmp 115) 3, type := 3, pos := "ref.go:201", after := #[{ on := 8, ground := Ground.data }, { on := 10, ground := Ground.data }], guard := none }) (v := ?_) rfl (by kernel_rfl) (by kernel_rfl) (by kernel_rfl) (fun _ _ _ h => h) (Or.inl ⟨by rfl, ?_⟩) (by assumption) ?_
                    rotate_left
                    · intro W hSw; go_simp; try with_reducible rfl
                    try simp only [Act.put, List.setIfInBounds_toArray, List.set_cons_zero, List.set_cons_succ]
                    refine wpAnyH_take (i := 12) (oi := { dst := some 117, op := Op.call { callee := Callee.builtin Builtin.min, args := #[Operand.tmp 110, Operand.tmp 116], argTypes := #[3, 3] }, type := 3, pos := "ref.go:201", after := #[{ on := 5, ground := Ground.data }, { on := 11, ground := Ground.data }], guard := none }) (v := ?_) rfl (by kernel_rfl) (by kernel_rfl) (by kernel_rfl) (fun _ _ _ h => h) (Or.inl ⟨by rfl, ?_⟩) (by assumption) ?_
                    rotate_left
                    · intro W hSw; go_simp; try with_reducible rfl
                    try simp only [Act.put, List.setIfInBounds_toArray, List.set_cons_zero, List.set_cons_succ]
                    refine wpAnyH_take (i := 13) (oi := { dst := some 118, op := Op.binOp BinOp.add 3 (Operand.tmp 105) (Operand.tmp 117) 3, type := 3, pos := "ref.go:201", after := #[{ on := 0, ground := Ground.data }, { on := 12, ground := Ground.data }], guard := none }) (v := ?_) rfl (by kernel_rfl) (by kernel_rfl) (by kernel_rfl) (fun _ _ _ h => h) (Or.inl ⟨by rfl, ?_⟩) (by assumption) ?_
                    rotate_left
                    · intro W hSw; go_simp; try with_reducible rfl
                    try simp only [Act.put, List.setIfInBounds_toArray, List.set_cons_zero, List.set_cons_succ]
                    refine wpAnyH_take (i := 14) (oi := { dst := some 12, op := Op.assign (Operand.tmp 118), type := 3, pos := "ref.go:201", after := #[{ on := 13, ground := Ground.data }, { on := 0, ground := Ground.phase }, { on := 1, ground := Ground.phase }, { on := 2, ground := Ground.phase }, { on := 3, ground := Ground.phase }, { on := 4, ground := Ground.phase }, { on := 5, ground := Ground.phase }, { on := 6, ground := Ground.phase }, { on := 7, ground := Ground.phase }, { on := 8, ground := Ground.phase }, { on := 9, ground := Ground.phase }, { on := 10, ground := Ground.phase }, { on := 11, ground := Ground.phase }, { on := 12, ground := Ground.phase }, { on := 13, ground := Ground.phase }], guard := none }) (v := ?_) rfl (by kernel_rfl) (by kernel_rfl) (by kernel_rfl) (fun _ _ _ h => h) (Or.inl ⟨by rfl, ?_⟩) (by assumption) ?_
                    rotate_left
                    · intro W hSw; go_simp; try with_reducible rfl
                    try simp only [Act.put, List.setIfInBounds_toArray, List.set_cons_zero, List.set_cons_succ]
                    refine wpAnyH_done (by kernel_rfl) ?_ _
                    skip
                    have HH := Lib.hid hHeld
                    clear hHeld
                    go_wp2
                    go_roundw
                    case rel => exact ⟨k + 1, by omega, by go_num, by rw [HWS.out.1, HWS.out.2, HC2.out], HBQ2.out.trans (HH.out.mono HBQ2.out.size)⟩
                    case measure => simp [intOf]; omega
                  · have d1 : (kn.toList == f.nm.toList) = false := by rw [str_eq, decide_eq_false he]
                    have HCM3 := Lib.hid (cutM_miss HKK.out he)
                    clear he
                    go_wp2
                    go_quiet (fail)
                    go_wp2
                    go_roundw
                    case rel => exact ⟨k + 1, by omega, by go_num, by rw [HCM3.out], HBQ1.out.trans ⟨rfl, rfl, rfl, Nat.le_refl _, fun _ _ => rfl⟩⟩
                    case measure => simp [intOf]; omega
                · have hkn2 : ¬ (k : Int) < (n : Int) := by omega
                  have htk : ks.take k = ks := List.take_of_length_le (by rw [HN.out]; omega)
                  rw [htk]
                  have hml := cutM_le ks hla
                  have HCX := Lib.hid (show cutC ks f = (f.nm, f.bs.take (cutM ks f), cutM ks f) from rfl)
                  generalize cutM ks f = m at hml HCX ⊢
                  have HRQ := Lib.hid (HRM.out.below (step_below HB1.out HBQ1.out))
                  have hgb : ∀ g0, a' = some g0 → wa.heap.size < g0.block ∧ g0.block < wb.heap.size := fun g0 e => by
                    obtain ⟨a2, c2, e2, _, _, _, h6⟩ := own_cells HRM.out.own
                    injection e2 with e3
                    have := h6 g0 (e3 ▸ e)
                    exact ⟨by omega, this.2.1⟩
                  have HGB := Lib.hid hgb
                  have HRB := Lib.hid (show wb.heap.size ≤ wr.heap.size from Nat.le_trans HB1.out.size HBQ1.out.size)
                  have HOWN := Lib.hid (show wr.ownsRow (wa.heap.size + 1) 111 3 (.slice a' i cap') i (fcs M) by have := HRQ.out.own; rwa [HML.out] at this)
                  have FO := Lib.hid (fun X (o : Off (fun k => ∃ g0, a' = some g0 ∧ g0.block = k) wr X) => (by
                    have hb := o.box HRQ.out.box (fun ⟨g0, e, e2⟩ => by have := (hgb g0 e).1; omega)
                    have h1 := hb.cell 1
                    rw [HML.out] at h1
                    exact ⟨hb.frozen 1, h1⟩ : X.frozen? ⟨wa.heap.size, 1, none⟩ = false ∧ X.cell? ⟨wa.heap.size, 1, none⟩ = some (.slice a' i cap')))
                  have FB := Lib.hid (fun X (o : Off (fun k => ∃ g0, a' = some g0 ∧ g0.block = k) wr X) => (by
                    have hb := o.box (BX.out.below HBQ1.out) (fun ⟨g0, e, e2⟩ => by have := (hgb g0 e).2; omega)
                    exact ⟨hb.cell 0, hb.cell 1⟩ : X.cell? ⟨wb.heap.size, 0, none⟩ = some (.string f.nm) ∧ X.cell? ⟨wb.heap.size, 1, none⟩ = some (.slice f.ad f.bs.length f.cap)))
                  have HTK := Lib.hid (show (f.bs.take m).length = m by rw [List.length_take]; omega)
                  have hrow := (H.out.below (step_below HBW.out (step_below HB1.out HBQ1.out))).rows f HFM.out
                  have HLS := Lib.hid (show Ls .u8 wr f.ad f.cap (f.bs.take m) from ⟨hrow.1.rd.take m, fun e => by have := hrow.1.nl e; rw [this.1]; exact ⟨by simp, this.2⟩, Nat.le_trans (by rw [List.length_take]; omega) hrow.1.le⟩)
                  have hmcap : m ≤ f.cap := Nat.le_trans hml hrow.1.le
                  clear y0 y1 y2 hrow hgb htk hk hkn
                  go_wp2
                  clear hkn2
                  refine wp_region_last (z := 18) (S := (fun X => Off (fun k => ∃ g0, a' = some g0 ∧ g0.block = k) wr X)) (by kernel_rfl) (Off.of ((Below.refl _ _).drew)) (fun hHeld => ?_)
                  refine wpAnyL_take (i := 0) (oi := { dst := some 119, op := Op.move (Operand.tmp 8), type := 27, pos := "ref.go:204", after := #[], guard := none }) (v := ?_) (by kernel_rfl) rfl (by kernel_rfl) rfl (by kernel_rfl) (by kernel_rfl) (by kernel_rfl) (fun _ _ _ h => h) (Or.inl ⟨by rfl, ?_⟩) (by assumption) ?_
                  rotate_left
                  · intro W hSw; go_simp; try with_reducible rfl
                  try simp only [Act.put, List.setIfInBounds_toArray, List.set_cons_zero, List.set_cons_succ]
                  refine wpAnyL_take (i := 1) (oi := { dst := some 120, op := Op.move (Operand.tmp 8), type := 27, pos := "ref.go:204", after := #[], guard := none }) (v := ?_) (by kernel_rfl) rfl (by kernel_rfl) rfl (by kernel_rfl) (by kernel_rfl) (by kernel_rfl) (fun _ _ _ h => h) (Or.inl ⟨by rfl, ?_⟩) (by assumption) ?_
                  rotate_left
                  · intro W hSw; go_simp; try with_reducible rfl
                  try simp only [Act.put, List.setIfInBounds_toArray, List.set_cons_zero, List.set_cons_succ]
                  refine wpAnyL_take (i := 2) (oi := { dst := some 121, op := Op.nilCheck (Operand.tmp 120), type := 0, pos := "ref.go:204", after := #[{ on := 1, ground := Ground.data }], guard := none }) (v := ?_) (by kernel_rfl) rfl (by kernel_rfl) rfl (by kernel_rfl) (by kernel_rfl) (by kernel_rfl) (fun _ _ _ h => h) (Or.inl ⟨by rfl, ?_⟩) (by assumption) ?_
                  rotate_left
                  · intro W hSw; go_simp; try with_reducible rfl
                  try simp only [Act.put, List.setIfInBounds_toArray, List.set_cons_zero, List.set_cons_succ]
                  refine wpAnyL_take (i := 3) (oi := { dst := some 122, op := Op.fieldAddr 97 (Operand.tmp 121) 1, type := 0, pos := "ref.go:204", after := #[{ on := 2, ground := Ground.data }], guard := none }) (v := ?_) (by kernel_rfl) rfl (by kernel_rfl) rfl (by kernel_rfl) (by kernel_rfl) (by kernel_rfl) (fun _ _ _ h => h) (Or.inl ⟨by rfl, ?_⟩) (by assumption) ?_
                  rotate_left
                  · intro W hSw; go_simp; try with_reducible rfl
                  try simp only [Act.put, List.setIfInBounds_toArray, List.set_cons_zero, List.set_cons_succ]
                  refine wpAnyL_take (i := 4) (oi := { dst := some 123, op := Op.load 95 (Operand.tmp 122), type := 95, pos := "ref.go:204", after := #[{ on := 3, ground := Ground.data }], guard := none }) (v := ?_) (by kernel_rfl) rfl (by kernel_rfl) rfl (by kernel_rfl) (by kernel_rfl) (by kernel_rfl) (fun _ _ _ h => h) (Or.inl ⟨by rfl, ?_⟩) (by assumption) ?_
                  rotate_left
                  · intro W hSw; obtain ⟨f1, c1q⟩ := FO.out W hSw; go_simp; try with_reducible rfl
                  try simp only [Act.put, List.setIfInBounds_toArray, List.set_cons_zero, List.set_cons_succ]
                  refine wpAnyL_take (i := 5) (oi := { dst := some 124, op := Op.fieldAddr 111 (Operand.tmp 11) 0, type := 0, pos := "ref.go:204", after := #[], guard := none }) (v := ?_) (by kernel_rfl) rfl (by kernel_rfl) rfl (by kernel_rfl) (by kernel_rfl) (by kernel_rfl) (fun _ _ _ h => h) (Or.inl ⟨by rfl, ?_⟩) (by assumption) ?_
                  rotate_left
                  · intro W hSw; go_simp; try with_reducible rfl
                  try simp only [Act.put, List.setIfInBounds_toArray, List.set_cons_zero, List.set_cons_succ]
                  refine wpAnyL_take (i := 6) (oi := { dst := some 125, op := Op.load 9 (Operand.tmp 124), type := 9, pos := "ref.go:204", after := #[{ on := 5, ground := Ground.data }], guard := none }) (v := ?_) (by kernel_rfl) rfl (by kernel_rfl) rfl (by kernel_rfl) (by kernel_rfl) (by kernel_rfl) (fun _ _ _ h => h) (Or.inl ⟨by rfl, ?_⟩) (by assumption) ?_
                  rotate_left
                  · intro W hSw; obtain ⟨b0, b1⟩ := FB.out W hSw; go_simp; try with_reducible rfl
                  try simp only [Act.put, List.setIfInBounds_toArray, List.set_cons_zero, List.set_cons_succ]
                  refine wpAnyL_take (i := 7) (oi := { dst := some 126, op := Op.fieldAddr 111 (Operand.tmp 11) 1, type := 0, pos := "ref.go:204", after := #[], guard := none }) (v := ?_) (by kernel_rfl) rfl (by kernel_rfl) rfl (by kernel_rfl) (by kernel_rfl) (by kernel_rfl) (fun _ _ _ h => h) (Or.inl ⟨by rfl, ?_⟩) (by assumption) ?_
                  rotate_left
                  · intro W hSw; go_simp; try with_reducible rfl
                  try simp only [Act.put, List.setIfInBounds_toArray, List.set_cons_zero, List.set_cons_succ]
                  refine wpAnyL_take (i := 8) (oi := { dst := some 127, op := Op.load 34 (Operand.tmp 126), type := 34, pos := "ref.go:204", after := #[{ on := 7, ground := Ground.data }], guard := none }) (v := ?_) (by kernel_rfl) rfl (by kernel_rfl) rfl (by kernel_rfl) (by kernel_rfl) (by kernel_rfl) (fun _ _ _ h => h) (Or.inl ⟨by rfl, ?_⟩) (by assumption) ?_
                  rotate_left
                  · intro W hSw; obtain ⟨b0, b1⟩ := FB.out W hSw; go_simp; try with_reducible rfl
                  try simp only [Act.put, List.setIfInBounds_toArray, List.set_cons_zero, List.set_cons_succ]
                  refine wpAnyL_take (i := 9) (oi := { dst := some 128, op := Op.move (Operand.tmp 12), type := 3, pos := "ref.go:204", after := #[], guard := none }) (v := ?_) (by kernel_rfl) rfl (by kernel_rfl) rfl (by kernel_rfl) (by kernel_rfl) (by kernel_rfl) (fun _ _ _ h => h) (Or.inl ⟨by rfl, ?_⟩) (by assumption) ?_
                  rotate_left
                  · intro W hSw; go_simp; try with_reducible rfl
                  try simp only [Act.put, List.setIfInBounds_toArray, List.set_cons_zero, List.set_cons_succ]
                  refine wpAnyL_take (i := 10) (oi := { dst := some 129, op := Op.slice 34 (Operand.tmp 127) none (some (Operand.tmp 128)) none, type := 34, pos := "ref.go:204", after := #[{ on := 8, ground := Ground.data }, { on := 9, ground := Ground.data }], guard := none }) (v := ?_) (by kernel_rfl) rfl (by kernel_rfl) rfl (by kernel_rfl) (by kernel_rfl) (by kernel_rfl) (fun _ _ _ h => h) (Or.inl ⟨by rfl, ?_⟩) (by assumption) ?_
                  rotate_left
                  · intro W hSw; go_simp; try with_reducible rfl
                  try simp only [Act.put, List.setIfInBounds_toArray, List.set_cons_zero, List.set_cons_succ]
                  refine wpAnyL_take (i := 12) (oi := { dst := some 131, op := Op.move (Operand.tmp 12), type := 3, pos := "ref.go:204", after := #[], guard := none }) (v := ?_) (by kernel_rfl) rfl (by kernel_rfl) rfl (by kernel_rfl) (by kernel_rfl) (by kernel_rfl) (fun _ _ _ h => h) (Or.inl ⟨by rfl, ?_⟩) (by assumption) ?_
                  rotate_left
                  · intro W hSw; go_simp; try with_reducible rfl
                  try simp only [Act.put, List.setIfInBounds_toArray, List.set_cons_zero, List.set_cons_succ]
                  refine wpAnyL_ready (rs := [11]) (by kernel_rfl) (by simp) ?_
                  refine AllL.cons (o := { dst := some 130, op := Op.call { callee := Callee.builtin Builtin.append, args := #[Operand.const (Value.slice none 0 0), Operand.tmp 129], argTypes := #[34, 34] }, type := 34, pos := "ref.go:204", after := #[{ on := 10, ground := Ground.data }], guard := none }) rfl (fun K hK => ?_) AllL.nil
                  refine step_append_ls eltB rfl _ _ rfl wr.heap.size wr (show Below wr.heap.size wr wr.drew from (Below.refl _ _).drew) (.slice none 0 0) 0 [] rfl (own_nil _ _) f.ad f.cap m (f.bs.take m) HTK.out rfl (HLS.out.below ((Below.refl _ _).drew)) (by omega) (Nat.le_refl _) ?_
                  intro v1 X1 ho1 hb2 hg1
                  obtain ⟨a1, c1', rfl, hls1, _⟩ := own_ls (show X1.ownsRow wr.heap.size 5 1 v1 m (iv .u8 (f.bs.take m)) by simpa using ho1) HTK.out
                  have HO1 := Lib.hid (show X1.ownsRow wr.heap.size 5 1 (.slice a1 m c1') m (iv .u8 (f.bs.take m)) by simpa using ho1)
                  have HL1 := Lib.hid hls1
                  have HX1 := Lib.hid hb2
                  clear ho1 hg1 hls1
                  refine hK.out _ _ (Off.of hb2) (fun hHeldn => ?_)
                  clear hK K hHeld; have hHeld := hHeldn; clear hHeldn
                  clear hb2
                  try simp only [Act.put, List.setIfInBounds_toArray, List.set_cons_zero, List.set_cons_succ]
                  refine wpAnyL_take (i := 13) (oi := { dst := some 132, op := Op.build 111 #[(0, Operand.tmp 125), (1, Operand.tmp 130), (2, Operand.tmp 131)], type := 111, pos := "ref.go:204", after := #[{ on := 6, ground := Ground.data }, { on := 11, ground := Ground.data }, { on := 12, ground := Ground.data }], guard := none }) (v := ?_) (by kernel_rfl) rfl (by kernel_rfl) rfl (by kernel_rfl) (by kernel_rfl) (by kernel_rfl) (fun _ _ _ h => h) (Or.inl ⟨by rfl, ?_⟩) (by assumption) ?_
                  rotate_left
                  · intro W hSw; go_simp; try with_reducible rfl
                  try simp only [Act.put, List.setIfInBounds_toArray, List.set_cons_zero, List.set_cons_succ]
                  refine wpAnyL_ready (rs := [14]) (by kernel_rfl) (by simp) ?_
                  refine AllL.cons (o := { dst := some 133, op := Op.buildSlice 95 1 #[(0, Operand.tmp 132)], type := 95, pos := "ref.go:204", after := #[{ on := 13, ground := Ground.data }], guard := none }) rfl (fun K hK => ?_) AllL.nil
                  obtain ⟨X2, hX2⟩ : ∃ X2, X1.alloc (.cells #[.string f.nm, .slice a1 m c1', .int .i64 (m : Nat)] 111) = X2 := ⟨_, rfl⟩
                  have hb2 : Below X1.heap.size X1 X2 := by rw [← hX2]; exact bl1 _ _
                  have HC9 := Lib.hid (show CellsL X2 (some ⟨X1.heap.size, 0, none⟩) (fcs [(⟨f.nm, f.bs.take m, a1, c1', m⟩ : Fil)]) by rw [← hX2]; exact cells_new1 X1 ⟨f.nm, f.bs.take m, a1, c1', m⟩ _ HTK.out)
                  have HX2 := Lib.hid (step_below HX1.out hb2)
                  have HX12 := Lib.hid hb2
                  go_simp
                  try rw [hX2]
                  refine hK.out _ _ (Off.of HX2.out) (fun hHeldn => ?_)
                  clear hK K hHeld; have hHeld := hHeldn; clear hHeldn
                  have HS12 := Lib.hid hb2.size
                  clear hb2 hX2
                  try simp only [Act.put, List.setIfInBounds_toArray, List.set_cons_zero, List.set_cons_succ]
                  refine wpAnyL_ready (rs := [15]) (by kernel_rfl) (by simp) ?_
                  refine AllL.cons (o := { dst := some 134, op := Op.call { callee := Callee.builtin Builtin.append, args := #[Operand.tmp 123, Operand.tmp 133], argTypes := #[95, 95] }, type := 95, pos := "ref.go:204", after := #[{ on := 4, ground := Ground.data }, { on := 14, ground := Ground.data }, { on := 11, ground := Ground.chain }], guard := none }) rfl (fun K hK => ?_) AllL.nil
                  refine step_append_fl_at rfl _ _ rfl (wa.heap.size + 1) X2 rfl (.slice a' i cap') i M rfl (own_kept HOWN.out HX2.out) ⟨X1.heap.size, 0, none⟩ 1 1 [(⟨f.nm, f.bs.take m, a1, c1', m⟩ : Fil)] rfl rfl HC9.out (by omega) (by have := HRQ.out.box.lt; have := HX2.out.size; omega) ?_
                  intro v3 X3 ho3 hg3 hwh
                  have ho23 := off_grown1 hg3
                  obtain ⟨a3, c3', rfl, hcl3, hle3, hno3, hge3⟩ := own_cells ho3
                  have HO3 := Lib.hid ho3
                  have HF3 := Lib.hid ho23
                  have HWH := Lib.hid (where_at hwh)
                  have HG3 := Lib.hid hge3
                  clear ho3 hg3 hwh hcl3 hle3 hno3 hge3
                  refine hK.out _ _ ((Off.of HX2.out).trans ho23) (fun hHeldn => ?_)
                  clear hK K hHeld; have hHeld := hHeldn; clear hHeldn
                  clear ho23
                  try simp only [Act.put, List.setIfInBounds_toArray, List.set_cons_zero, List.set_cons_succ]
                  refine wpAnyL_free (i := 16) (oi := { dst := some 135, op := Op.nilCheck (Operand.tmp 119), type := 0, pos := "ref.go:204", after := #[{ on := 0, ground := Ground.data }, { on := 0, ground := Ground.phase }, { on := 1, ground := Ground.phase }, { on := 2, ground := Ground.phase }, { on := 3, ground := Ground.phase }, { on := 4, ground := Ground.phase }, { on := 5, ground := Ground.phase }, { on := 6, ground := Ground.phase }, { on := 7, ground := Ground.phase }, { on := 8, ground := Ground.phase }, { on := 9, ground := Ground.phase }, { on := 10, ground := Ground.phase }, { on := 11, ground := Ground.phase }, { on := 12, ground := Ground.phase }, { on := 13, ground := Ground.phase }, { on := 14, ground := Ground.phase }, { on := 15, ground := Ground.phase }], guard := none }) (v := ?_) (by kernel_rfl) rfl rfl (by kernel_rfl) (by kernel_rfl) (by kernel_rfl) (fun _ _ _ h => h) (Or.inl ⟨by rfl, ?_⟩) (by assumption) ?_
                  rotate_left
                  · intro W hSw; go_simp; try with_reducible rfl
                  try simp only [Act.put, List.setIfInBounds_toArray, List.set_cons_zero, List.set_cons_succ]
                  refine wpAnyL_take (i := 17) (oi := { dst := some 136, op := Op.fieldAddr 97 (Operand.tmp 135) 1, type := 0, pos := "ref.go:204", after := #[{ on := 16, ground := Ground.data }, { on := 0, ground := Ground.phase }, { on := 1, ground := Ground.phase }, { on := 2, ground := Ground.phase }, { on := 3, ground := Ground.phase }, { on := 4, ground := Ground.phase }, { on := 5, ground := Ground.phase }, { on := 6, ground := Ground.phase }, { on := 7, ground := Ground.phase }, { on := 8, ground := Ground.phase }, { on := 9, ground := Ground.phase }, { on := 10, ground := Ground.phase }, { on := 11, ground := Ground.phase }, { on := 12, ground := Ground.phase }, { on := 13, ground := Ground.phase }, { on := 14, ground := Ground.phase }, { on := 15, ground := Ground.phase }], guard := none }) (v := ?_) (by kernel_rfl) rfl (by kernel_rfl) rfl (by kernel_rfl) (by kernel_rfl) (by kernel_rfl) (fun _ _ _ h => h) (Or.inl ⟨by rfl, ?_⟩) (by assumption) ?_
                  rotate_left
                  · intro W hSw; go_simp; try with_reducible rfl
                  try simp only [Act.put, List.setIfInBounds_toArray, List.set_cons_zero, List.set_cons_succ]
                  refine wpAnyL_ready (rs := [18]) (by kernel_rfl) (by simp) ?_
                  refine AllL.last (o := { dst := none, op := Op.store 95 (Operand.tmp 136) (Operand.tmp 134), type := 0, pos := "ref.go:204", after := #[{ on := 17, ground := Ground.data }, { on := 15, ground := Ground.data }, { on := 15, ground := Ground.chain }, { on := 0, ground := Ground.phase }, { on := 1, ground := Ground.phase }, { on := 2, ground := Ground.phase }, { on := 3, ground := Ground.phase }, { on := 4, ground := Ground.phase }, { on := 5, ground := Ground.phase }, { on := 6, ground := Ground.phase }, { on := 7, ground := Ground.phase }, { on := 8, ground := Ground.phase }, { on := 9, ground := Ground.phase }, { on := 10, ground := Ground.phase }, { on := 11, ground := Ground.phase }, { on := 12, ground := Ground.phase }, { on := 13, ground := Ground.phase }, { on := 14, ground := Ground.phase }, { on := 15, ground := Ground.phase }], guard := none }) rfl (fun K hK => ?_)
                  obtain ⟨f1, c1q⟩ := FO.out _ hHeld
                  go_simp
                  refine hK.out _ _ ?_
                  clear hK K
                  try simp only [Act.put, List.setIfInBounds_toArray, List.set_cons_zero, List.set_cons_succ]
                  refine wpAnyL_done (by kernel_rfl) ?_ _
                  obtain ⟨X4, hX4⟩ : ∃ X4, X3.setCell ⟨wa.heap.size, 1, none⟩ (.slice a3 (i + 1) c3') = X4 := ⟨_, rfl⟩
                  have hro : Off (fun k => ∃ g0, a' = some g0 ∧ g0.block = k) wr X3 := hHeld
                  have hrows : ∀ y ∈ M ++ [(⟨f.nm, f.bs.take m, a1, c1', m⟩ : Fil)], Ls .u8 X3 y.ad y.cap y.bs ∧ ∀ b, y.ad = some b → wa.heap.size < b.block ∧ b.block < X3.heap.size := fun y hy => by
                    rcases List.mem_append.1 hy with hy | hy
                    · have h1 := HRQ.out.rows y hy
                      exact ⟨h1.1.any hro (fun b e ⟨g0, e1, e2⟩ => HAP.out g0 e1 y hy b e e2.symm), fun b e => ⟨(h1.2 b e).1, Nat.lt_of_lt_of_le (h1.2 b e).2 hro.size⟩⟩
                    · have hy : y = ⟨f.nm, f.bs.take m, a1, c1', m⟩ := by simpa using hy
                      subst hy
                      have hb2 : ∀ b, a1 = some b → wr.heap.size ≤ b.block ∧ b.block < X1.heap.size := own_block HO1.out
                      have ho13 := (Off.of (S := fun k => ∃ g0, a' = some g0 ∧ g0.block = k) (show Below X1.heap.size X1 X2 from HX12.out)).trans HF3.out
                      refine ⟨HL1.out.any ho13 (fun b e ⟨g0, e1, e2⟩ => ?_), fun b e => ⟨?_, Nat.lt_of_lt_of_le (hb2 b e).2 ho13.size⟩⟩
                      · have := (HGB.out g0 e1).2; have := (hb2 b e).1; have := HRB.out; omega
                      · have := (hb2 b e).1; have := HRQ.out.box.lt; show wa.heap.size < b.block; omega
                  have HR4 := Lib.hid (rdk_app (hro.box HRQ.out.box (fun ⟨g0, e, e2⟩ => by have := (HGB.out g0 e).1; omega)) HO3.out hrows hX4)
                  have HBX4 := Lib.hid (show Below w.heap.size w X4 by
                    have h1 : Below w.heap.size w wr := HBW.out.trans ((step_below HB1.out HBQ1.out).mono HBW.out.size)
                    have h2 := Off.below h1 hro h1.size (fun k ⟨g0, e, e2⟩ => by have := (HGB.out g0 e).1; have := HWQ.out; omega)
                    rw [← hX4]; exact h2.setCell (p := ⟨wa.heap.size, 1, none⟩) HWQ.out _)
                  have HAP4 := Lib.hid (show Apart a3 (M ++ [(⟨f.nm, f.bs.take m, a1, c1', m⟩ : Fil)]) from fun g e y hy b eb => by
                    have hb2 : ∀ b, a1 = some b → wr.heap.size ≤ b.block ∧ b.block < X1.heap.size := own_block HO1.out
                    have hs12 := HX12.out.size
                    rcases HWH.out g e with ⟨g0, e1, e2⟩ | e1
                    · rw [← e2]
                      rcases List.mem_append.1 hy with hy | hy
                      · exact HAP.out g0 e1 y hy b eb
                      · have hy : y = ⟨f.nm, f.bs.take m, a1, c1', m⟩ := by simpa using hy
                        subst hy
                        have := (HGB.out g0 e1).2; have := (hb2 b eb).1; have := HRB.out; omega
                    · rw [e1]
                      rcases List.mem_append.1 hy with hy | hy
                      · have := ((HRQ.out.rows y hy).2 b eb).2; have := HX1.out.size; omega
                      · have hy : y = ⟨f.nm, f.bs.take m, a1, c1', m⟩ := by simpa using hy
                        subst hy
                        have := (hb2 b eb).2; omega)
                  have HCM4 := Lib.hid (show (M ++ [(⟨f.nm, f.bs.take m, a1, c1', m⟩ : Fil)]).map core = (L.take (i + 1)).map (cutC ks) by rw [take_snoc HFI.out, List.map_append, List.map_append, HCM.out]; show _ ++ [core _] = _ ++ [cutC ks f]; rw [HCX.out]; rfl)
                  have HML4 := Lib.hid (show (M ++ [(⟨f.nm, f.bs.take m, a1, c1', m⟩ : Fil)]).length = i + 1 by rw [List.length_append, HML.out]; rfl)
                  rw [hX4]
                  clear hX4 hro hrows hHeld
                  go_wp2
                  go_roundw
                  case rel => exact ⟨i + 1, _, a3, c3', by omega, by go_num, HML4.out, HR4.out, HCM4.out, HBX4.out, HAP4.out⟩
                  case measure => simp [intOf]; omega
            · have hil2 : ¬ (i : Int) < (ln : Int) := by omega
              have ht : L.take i = L := List.take_of_length_le (by rw [HLL.out]; omega)
              rw [ht] at HCM
              clear ht
              go_wp2
              go_ret2
              have e0 : crE (L.map core) ks = 0 := by
                unfold crE
                rw [if_neg (by simpa using HOK.out), if_neg]
                rintro ⟨k, hk, hx⟩
                rw [HALL.out k hk] at hx
                cases hx
              refine ⟨HBW.out, some ⟨wa.heap.size, 0, none⟩, by rw [e0]; rfl, fun h => absurd e0 h, fun _ => ⟨wa.heap.size, rfl, M, a', cap', HRM.out, by rw [HCM.out, List.map_map]; rfl, fun k hk => ?_⟩⟩
              rcases hk with rfl | ⟨g, e, rfl⟩ | ⟨x, hx, b, e, rfl⟩
              · exact HWQ.out
              · have h5 := own_cells HRM.out.own
                obtain ⟨a2, c2, e2, _, _, _, h6⟩ := h5
                injection e2 with e3
                have := (h6 g (e3 ▸ e)).1
                have := HWQ.out
                omega
              · have := ((HRM.out.rows x hx).2 b e).1
                have := HWQ.out
                omega
end Go.Proofs.Ytbjhcbiihekceaa
