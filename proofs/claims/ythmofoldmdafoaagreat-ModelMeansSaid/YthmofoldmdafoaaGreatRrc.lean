/- ModelReads: a transaction that reads alone writes nothing, and is answered the same again and again; for every input. Part 3. -/
import Derived.Test.YthmofoldmdafoaaGreatRra
import Derived.Deep.DeepCutAuto
import Derived.Deep.CutBlock
import Derived.OrdersHeld
import Derived.Deep.RegionHeld
import Derived.KernelRfl
import Derived.Test.YthmofoldmdafoaaGreatRrb
import Derived.Lib.ConvBytes
import Derived.Lib.SliceRun
import Derived.Deep.WholeRow
import Derived.BigRegion
namespace Go.Proofs.YthmofoldmdafoaaGreat
open Go.ChangeShapes Go.WideShapes Go.ChangeAt Go.RowKit
set_option linter.unusedVariables false
set_option linter.unusedSimpArgs false
/-- An answer as it lies. -/
structure ResV where
  e : Int
  pa : Option Addr
  pc : Nat
  P : List PrV
def resC (x : ResV) : Int × List Pr := (x.e, x.P.map prC)
structure ResOk (x : ResV) : Prop where
  pn : x.P.length ≤ 1000000
  ps : ∀ p ∈ x.P, PrOk p
def ResR (W : World) (a : Option Addr) (L : List ResV) : Prop := ∀ (k : Nat) (x : ResV), L[k]? = some x → ∃ b off, a = some ⟨b, off, none⟩ ∧ W.cell? ⟨b, off + k * 2, none⟩ = some (.int .i64 x.e) ∧ W.cell? ⟨b, off + k * 2 + 1, none⟩ = some (.slice x.pa x.P.length x.pc) ∧ PairsR W x.pa x.P
theorem ResR.below {W W' : World} {a : Option Addr} {L : List ResV} (h : ResR W a L) (hb : Below W.heap.size W W') : ResR W' a L := fun k x hx => by
  obtain ⟨b, off, e, c0, c1, r⟩ := h k x hx
  exact ⟨b, off, e, (hb.cell (World.block_lt_of_cell? W _ c0)).trans c0, (hb.cell (World.block_lt_of_cell? W _ c1)).trans c1, r.below hb⟩
set_option maxRecDepth 100000 in
set_option maxHeartbeats 4000000 in
/-- The document's SameResults (34). -/
theorem rsameresults_law (a b : Option Addr) (L M : List ResV) (n m ca cb : Nat) (hn : L.length = n) (hm : M.length = m) (hn2 : n ≤ 1000000) (hm2 : m ≤ 1000000) (okL : ∀ x ∈ L, ResOk x) (okM : ∀ x ∈ M, ResOk x) (w : World) (hA : ResR w a L) (hB : ResR w b M) :
    Calls Tryz.prog 34 #[.slice a n ca, .slice b m cb] w fun r w' => r = .returned (.bool (decide (L.map resC = M.map resC))) ∧ Below w.heap.size w w' := by
  have HR := Lib.hid (And.intro hA hB)
  have HN := Lib.hid (And.intro hn hm)
  have HOK := Lib.hid (And.intro okL okM)
  have hni : (n : Int) ≤ 1000000 := by omega
  have hmi : (m : Int) ≤ 1000000 := by omega
  clear hA hB hn hm okL okM
  by_cases hnm : n = m
  · subst hnm
    have e4 : ((n : Int) != (n : Int)) = false := by simp
    go_enter Tryz.func34, Tryz.ntmps34
    go_wp2_with fail
    clear e4
    go_loopw [5] (fun i wr => ∃ k : Nat, k ≤ n ∧ i = .int .i64 (k : Int) ∧ Hid ((L.take k).map resC = (M.take k).map resC) ∧ Hid (Below w.heap.size w wr)) (fun i _ => n - (intOf i).toNat)
    case atStart => exact ⟨0, by omega, rfl, Lib.hid rfl, Lib.hid (Below.refl _ _)⟩
    case round =>
      obtain ⟨k, hk, rfl, HE, HBW⟩ := hrel
      by_cases hlt : k < n
      · have d1 : (k : Int) < (n : Int) := by omega
        obtain ⟨x, hx⟩ : ∃ x, L[k]? = some x := ⟨_, List.getElem?_eq_getElem (by rw [HN.out.1]; exact hlt)⟩
        obtain ⟨y, hy⟩ : ∃ y, M[k]? = some y := ⟨_, List.getElem?_eq_getElem (by rw [HN.out.2]; exact hlt)⟩
        obtain ⟨b1, o1, ea, c0, c1, rx⟩ := (HR.out.1.below HBW.out) k x hx
        subst ea
        obtain ⟨b2, o2, eb, e0, e1, ry⟩ := (HR.out.2.below HBW.out) k y hy
        subst eb
        have okx := HOK.out.1 x (List.mem_of_getElem? hx)
        have oky := HOK.out.2 y (List.mem_of_getElem? hy)
        have HXY := Lib.hid (And.intro hx hy)
        have HRS := Lib.hid (fun W (b : Below wr.heap.size wr W) => rsamepairs_law x.pa y.pa x.P y.P x.P.length y.P.length x.pc y.pc rfl rfl okx.pn oky.pn okx.ps oky.ps W (rx.below b) (ry.below b))
        obtain ⟨q, hq⟩ : ∃ q, decide (x.P.map prC = y.P.map prC) = q := ⟨_, rfl⟩
        rw [hq] at HRS
        have HQ := Lib.hid hq
        have HPC := Lib.hid (show resC x = (x.e, x.P.map prC) ∧ resC y = (y.e, y.P.map prC) from ⟨rfl, rfl⟩)
        obtain ⟨XK, hXK⟩ : ∃ t, x.e = t := ⟨_, rfl⟩
        obtain ⟨xrn, hxrn⟩ : ∃ t, x.P.length = t := ⟨_, rfl⟩
        obtain ⟨xra, hxra⟩ : ∃ t, x.pa = t := ⟨_, rfl⟩
        obtain ⟨xrc, hxrc⟩ : ∃ t, x.pc = t := ⟨_, rfl⟩
        obtain ⟨YK, hYK⟩ : ∃ t, y.e = t := ⟨_, rfl⟩
        obtain ⟨yrn, hyrn⟩ : ∃ t, y.P.length = t := ⟨_, rfl⟩
        obtain ⟨yra, hyra⟩ : ∃ t, y.pa = t := ⟨_, rfl⟩
        obtain ⟨yrc, hyrc⟩ : ∃ t, y.pc = t := ⟨_, rfl⟩
        rw [hXK] at c0
        rw [hxra, hxrn, hxrc] at c1
        rw [hYK] at e0
        rw [hyra, hyrn, hyrc] at e1
        rw [hxra, hyra, hxrn, hyrn, hxrc, hyrc] at HRS
        rw [hXK, hYK] at HPC
        have HX5 := Lib.hid (fun W (b : Below wr.heap.size wr W) => (⟨(b.cell (World.block_lt_of_cell? wr _ c0)).trans c0, (b.cell (World.block_lt_of_cell? wr _ c1)).trans c1⟩ : W.cell? ⟨b1, o1 + k * 2, none⟩ = some (.int .i64 XK) ∧ W.cell? ⟨b1, o1 + k * 2 + 1, none⟩ = some (.slice xra xrn xrc)))
        have HY5 := Lib.hid (fun W (b : Below wr.heap.size wr W) => (⟨(b.cell (World.block_lt_of_cell? wr _ e0)).trans e0, (b.cell (World.block_lt_of_cell? wr _ e1)).trans e1⟩ : W.cell? ⟨b2, o2 + k * 2, none⟩ = some (.int .i64 YK) ∧ W.cell? ⟨b2, o2 + k * 2 + 1, none⟩ = some (.slice yra yrn yrc)))
        clear c0 c1 e0 e1 rx ry okx oky hx hy hq hXK hxrn hxra hxrc hYK hyrn hyra hyrc
        by_cases hkk : XK = YK
        · have HKK := Lib.hid hkk
          have hne : (XK != YK) = false := by rw [hkk]; simp
          have hnp : XK = YK := hkk
          clear hkk
          go_upto_region 6 with (fail)
          rename_i KK hKK
          refine Code.wp_mono (Q := Exit.then KK (fun _ _ _ => False)) (fun e a' w' h => by cases e <;> first | exact h | exact h.elim) ?_
          refine wp_region_held_drew (S := (fun X => Below wr.heap.size wr X)) (by kernel_rfl) ((Below.refl _ _).drew) (fun hHeld => ?_)
          refine tp 0 ?_ rfl (.inl ⟨by rfl, ?_⟩) ?_
          rotate_left
          · intro W hSw; go_simp; try with_reducible rfl
          refine tp 1 ?_ rfl (.inl ⟨by rfl, ?_⟩) ?_
          rotate_left
          · intro W hSw; go_simp; try with_reducible rfl
          refine tp 2 ?_ rfl (.inl ⟨by rfl, ?_⟩) ?_
          rotate_left
          · intro W hSw; go_simp; try with_reducible rfl
          refine tp 3 ?_ rfl (.inl ⟨by rfl, ?_⟩) ?_
          rotate_left
          · intro W hSw; go_simp; try with_reducible rfl
          refine tp 4 ?_ rfl (.inl ⟨by rfl, ?_⟩) ?_
          rotate_left
          · intro W hSw; obtain ⟨c0, c1⟩ := HX5.out W hSw; go_simp; try with_reducible rfl
          refine tp 5 ?_ rfl (.inl ⟨by rfl, ?_⟩) ?_
          rotate_left
          · intro W hSw; go_simp; try with_reducible rfl
          refine tp 6 ?_ rfl (.inl ⟨by rfl, ?_⟩) ?_
          rotate_left
          · intro W hSw; go_simp; try with_reducible rfl
          refine tp 7 ?_ rfl (.inl ⟨by rfl, ?_⟩) ?_
          rotate_left
          · intro W hSw; go_simp; try with_reducible rfl
          refine tp 8 ?_ rfl (.inl ⟨by rfl, ?_⟩) ?_
          rotate_left
          · intro W hSw; go_simp; try with_reducible rfl
          refine tp 9 ?_ rfl (.inl ⟨by rfl, ?_⟩) ?_
          rotate_left
          · intro W hSw; obtain ⟨e0, e1⟩ := HY5.out W hSw; go_simp; try with_reducible rfl
          refine tp 10 (.bool false) rfl (.inl ⟨by rfl, ?_⟩) ?_
          · intro W hSw; go_simp; try (first | exact hnp | rfl | (simp only [hne]; done) | (simp [hne]; done))
          refine tp 11 (.bool false) rfl (.inl ⟨by rfl, ?_⟩) ?_
          · intro W hSw; go_simp; try (first | exact hnp | rfl | (simp only [hne]; done) | (simp [hne]; done))
          refine tp 12 ?_ rfl (.inl ⟨by rfl, ?_⟩) ?_
          rotate_left
          · intro W hSw; go_simp; try with_reducible rfl
          refine tp 13 ?_ rfl (.inl ⟨by rfl, ?_⟩) ?_
          rotate_left
          · intro W hSw; go_simp; try with_reducible rfl
          refine tp 14 ?_ rfl (.inl ⟨by rfl, ?_⟩) ?_
          rotate_left
          · intro W hSw; go_simp; try with_reducible rfl
          refine tp 15 ?_ rfl (.inl ⟨by rfl, ?_⟩) ?_
          rotate_left
          · intro W hSw; go_simp; try with_reducible rfl
          refine tp 16 ?_ rfl (.inl ⟨by rfl, ?_⟩) ?_
          rotate_left
          · intro W hSw; obtain ⟨c0, c1⟩ := HX5.out W hSw; go_simp; try with_reducible rfl
          refine tp 17 ?_ rfl (.inl ⟨by rfl, ?_⟩) ?_
          rotate_left
          · intro W hSw; go_simp; try with_reducible rfl
          refine tp 18 ?_ rfl (.inl ⟨by rfl, ?_⟩) ?_
          rotate_left
          · intro W hSw; go_simp; try with_reducible rfl
          refine tp 19 ?_ rfl (.inl ⟨by rfl, ?_⟩) ?_
          rotate_left
          · intro W hSw; go_simp; try with_reducible rfl
          refine tp 20 ?_ rfl (.inl ⟨by rfl, ?_⟩) ?_
          rotate_left
          · intro W hSw; go_simp; try with_reducible rfl
          refine tp 21 ?_ rfl (.inl ⟨by rfl, ?_⟩) ?_
          rotate_left
          · intro W hSw; obtain ⟨e0, e1⟩ := HY5.out W hSw; go_simp; try with_reducible rfl
          refine wpAnyH_ready (rs := [22]) (by kernel_rfl) (by simp) ?_
          refine AllReadyH.cons (o := { dst := some 39, op := Op.call { callee := Callee.value (Operand.func 73), args := #[Operand.tmp 33, Operand.tmp 38], argTypes := #[69, 69] }, type := 4, pos := "ref.go:255", after := #[{ on := 16, ground := Ground.data }, { on := 21, ground := Ground.data }, { on := 11, ground := Ground.chain }, { on := 11, ground := Ground.guard }], guard := some (11, false) }) rfl (fun K hK => ?_) AllReadyH.nil
          go_simp
          refine (HRS.out _ hHeld).mono ?_; rintro e9 w9 ⟨rfl, hb9⟩
          go_wp2_with fail
          refine hK.out _ _ (step_below hHeld hb9) (fun hHeldn => ?_)
          clear hK K hHeld; have hHeld := hHeldn; clear hHeldn
          clear hb9
          try simp only [Act.put, List.setIfInBounds_toArray, List.set_cons_zero, List.set_cons_succ]
          refine tp 23 ?_ rfl (.inl ⟨by rfl, ?_⟩) ?_
          rotate_left
          · intro W hSw; go_simp; try with_reducible rfl
          refine tp 24 ?_ rfl (.inl ⟨by rfl, ?_⟩) ?_
          rotate_left
          · intro W hSw; go_simp; try with_reducible rfl
          refine wpAnyH_done (by kernel_rfl) ?_ _
          skip
          refine hKK _ _ ?_
          have HB9 := Lib.hid (step_below HBW.out hHeld)
          clear hHeld hne hnp
          cases q
          · have HV := Lib.hid (show decide (L.map resC = M.map resC) = false by
              rw [decide_eq_false_iff_not]
              refine map_at_ne HXY.out.1 HXY.out.2 ?_
              rw [HPC.out.1, HPC.out.2]
              intro e9
              have := HQ.out
              rw [decide_eq_false_iff_not] at this
              exact this (Prod.mk.inj e9).2)
            go_wp2_with fail
            go_ret
            exact ⟨by rw [HV.out]; rfl, HB9.out⟩
          · have HEN := Lib.hid (show (L.take (k + 1)).map resC = (M.take (k + 1)).map resC by
              rw [List.take_add_one, List.take_add_one, HXY.out.1, HXY.out.2, List.map_append, List.map_append, HE.out]
              have hr := HQ.out
              rw [decide_eq_true_eq] at hr
              simp only [Option.toList_some, List.map_cons, List.map_nil, HPC.out.1, HPC.out.2, HKK.out, hr])
            go_wp2_with fail
            go_roundw
            case rel => exact ⟨k + 1, by omega, by go_num, HEN, HB9⟩
            case measure => simp [intOf]; omega
        · have HV := Lib.hid (show decide (L.map resC = M.map resC) = false by
            rw [decide_eq_false_iff_not]
            refine map_at_ne HXY.out.1 HXY.out.2 ?_
            rw [HPC.out.1, HPC.out.2]
            exact fun e9 => hkk (Prod.mk.inj e9).1)
          have hne : (XK != YK) = true := bne_iff_ne.2 hkk
          have hnp : ¬ XK = YK := hkk
          clear hkk
          go_upto_region 6 with (fail)
          rename_i KK hKK
          refine Code.wp_mono (Q := Exit.then KK (fun _ _ _ => False)) (fun e a' w' h => by cases e <;> first | exact h | exact h.elim) ?_
          refine wp_region_held_drew (S := (fun X => Below wr.heap.size wr X)) (by kernel_rfl) ((Below.refl _ _).drew) (fun hHeld => ?_)
          refine tp 0 ?_ rfl (.inl ⟨by rfl, ?_⟩) ?_
          rotate_left
          · intro W hSw; go_simp; try with_reducible rfl
          refine tp 1 ?_ rfl (.inl ⟨by rfl, ?_⟩) ?_
          rotate_left
          · intro W hSw; go_simp; try with_reducible rfl
          refine tp 2 ?_ rfl (.inl ⟨by rfl, ?_⟩) ?_
          rotate_left
          · intro W hSw; go_simp; try with_reducible rfl
          refine tp 3 ?_ rfl (.inl ⟨by rfl, ?_⟩) ?_
          rotate_left
          · intro W hSw; go_simp; try with_reducible rfl
          refine tp 4 ?_ rfl (.inl ⟨by rfl, ?_⟩) ?_
          rotate_left
          · intro W hSw; obtain ⟨c0, c1⟩ := HX5.out W hSw; go_simp; try with_reducible rfl
          refine tp 5 ?_ rfl (.inl ⟨by rfl, ?_⟩) ?_
          rotate_left
          · intro W hSw; go_simp; try with_reducible rfl
          refine tp 6 ?_ rfl (.inl ⟨by rfl, ?_⟩) ?_
          rotate_left
          · intro W hSw; go_simp; try with_reducible rfl
          refine tp 7 ?_ rfl (.inl ⟨by rfl, ?_⟩) ?_
          rotate_left
          · intro W hSw; go_simp; try with_reducible rfl
          refine tp 8 ?_ rfl (.inl ⟨by rfl, ?_⟩) ?_
          rotate_left
          · intro W hSw; go_simp; try with_reducible rfl
          refine tp 9 ?_ rfl (.inl ⟨by rfl, ?_⟩) ?_
          rotate_left
          · intro W hSw; obtain ⟨e0, e1⟩ := HY5.out W hSw; go_simp; try with_reducible rfl
          refine tp 10 (.bool true) rfl (.inl ⟨by rfl, ?_⟩) ?_
          · intro W hSw; go_simp; try (first | exact hnp | rfl | (simp only [hne]; done) | (simp [hne]; done))
          refine tp 11 (.bool true) rfl (.inl ⟨by rfl, ?_⟩) ?_
          · intro W hSw; go_simp; try (first | exact hnp | rfl | (simp only [hne]; done) | (simp [hne]; done))
          refine tp 12 (undef) rfl (.inr ⟨by rfl, rfl⟩) ?_
          refine tp 13 (undef) rfl (.inr ⟨by rfl, rfl⟩) ?_
          refine tp 14 (undef) rfl (.inr ⟨by rfl, rfl⟩) ?_
          refine tp 15 (undef) rfl (.inr ⟨by rfl, rfl⟩) ?_
          refine tp 16 (undef) rfl (.inr ⟨by rfl, rfl⟩) ?_
          refine tp 17 (undef) rfl (.inr ⟨by rfl, rfl⟩) ?_
          refine tp 18 (undef) rfl (.inr ⟨by rfl, rfl⟩) ?_
          refine tp 19 (undef) rfl (.inr ⟨by rfl, rfl⟩) ?_
          refine tp 20 (undef) rfl (.inr ⟨by rfl, rfl⟩) ?_
          refine tp 21 (undef) rfl (.inr ⟨by rfl, rfl⟩) ?_
          refine tp 22 (undef) rfl (.inr ⟨by rfl, rfl⟩) ?_
          refine tp 23 (undef) rfl (.inr ⟨by rfl, rfl⟩) ?_
          refine tp 24 (.bool true) rfl (.inl ⟨by rfl, ?_⟩) ?_
          · intro W hSw; go_simp; try (first | rfl | (simp; done))
          refine wpAnyH_done (by kernel_rfl) ?_ _
          skip
          refine hKK _ _ ?_
          have HB9 := Lib.hid (step_below HBW.out hHeld)
          clear hHeld hne hnp
          go_wp2_with fail
          go_ret
          exact ⟨by rw [HV.out]; rfl, HB9.out⟩
      · have d1 : ¬ (k : Int) < (n : Int) := by omega
        have HV := Lib.hid (show decide (L.map resC = M.map resC) = true by
          have h1 := HE.out
          rw [List.take_of_length_le (by rw [HN.out.1]; omega), List.take_of_length_le (by rw [HN.out.2]; omega)] at h1
          rw [decide_eq_true_eq]; exact h1)
        go_wp2_with fail
        go_ret
        exact ⟨by rw [HV.out]; rfl, HBW.out⟩
  · have e4 : ((n : Int) != (m : Int)) = true := by rw [bne_iff_ne]; omega
    have HV := Lib.hid (show decide (L.map resC = M.map resC) = false by
      rw [decide_eq_false_iff_not]
      intro e9
      have := congrArg List.length e9
      rw [List.length_map, List.length_map, HN.out.1, HN.out.2] at this
      exact hnm this)
    clear hnm
    go_enter Tryz.func34, Tryz.ntmps34
    go_wp2_with fail
    go_ret
    exact ⟨by rw [HV.out]; rfl, Below.refl _ _⟩
end Go.Proofs.YthmofoldmdafoaaGreat
namespace Go.Proofs.YthmofoldmdafoaaGreat
open Go.ChangeShapes Go.WideShapes Go.ChangeAt Go.RowKit Go.Maps
set_option linter.unusedVariables false
set_option linter.unusedSimpArgs false

/-- A write of a trial, as it lies. -/
structure WtV where
  t : Nat
  ka : Option Addr
  kc : Nat
  K : List Int
  r : RV
def wcl (y : WtV) : List Value := [.int .i64 y.t, .slice y.ka y.K.length y.kc, y.r.v]
theorem wcl_len (y : WtV) : (wcl y).length = 3 := rfl
theorem wcl_one (y : WtV) : ∀ u ∈ wcl y, u.oneCell' = true := fun u hu => by
  simp only [wcl, RV.v, List.mem_cons, List.not_mem_nil, or_false] at hu
  rcases hu with rfl | rfl | rfl <;> rfl
def rcl (y : ResV) : List Value := [.int .i64 y.e, .slice y.pa y.P.length y.pc]
theorem rcl_len (y : ResV) : (rcl y).length = 2 := rfl
theorem rcl_one (y : ResV) : ∀ u ∈ rcl y, u.oneCell' = true := fun u hu => by
  simp only [rcl, List.mem_cons, List.not_mem_nil, or_false] at hu
  rcases hu with rfl | rfl <;> rfl
def iV (i : Nat) : Value := .int .i64 (i : Int)
/-- A trial: its block, the two variables' blocks, what was written, what was answered. -/
structure Tl where
  px : Nat
  bx : Nat
  bm : Nat
  bw : Nat
  wc : Nat
  wm : List (Nat × List (List Int × Nat))
  wv : Value
  rv : Value
  ws : List WtV
  rs : List ResV
def Tl.cs (m : Md) (x : Tl) : Array Value := #[.pointer (some ⟨m.p, 0, none⟩), .slice (some ⟨x.bw, 0, none⟩) x.wm.length x.wc, x.wv, x.rv, .func (.func 107) #[] #[.pointer (some ⟨x.bx, 0, none⟩), .pointer (some ⟨x.bm, 0, none⟩)]]
structure TlS (m : Md) (x : Tl) (W : World) : Prop where
  vx : BoxC W x.bx #[.pointer (some ⟨x.px, 0, none⟩)] 117
  vm : BoxC W x.bm #[.pointer (some ⟨m.p, 0, none⟩)] 28
  tab : ∀ k y, x.wm[k]? = some y → W.cell? ⟨x.bw, k, none⟩ = some (.map (some y.1))
structure TlR (S : Nat → Prop) (base : Nat) (W : World) (m : Md) (x : Tl) : Prop where
  md : MdR S W m
  bd : ∀ k, S k → k < W.heap.size
  box : BoxC W x.px (x.cs m) 123
  st : Stay S W (TlS m x)
  wmaps : ∀ y ∈ x.wm, Mp W y.1 iV y.2
  wlen : x.wm.length = m.tabs.length
  own : W.ownsRow base 84 3 x.wv x.ws.length (cellsOf wcl x.ws)
  wst : ∀ y ∈ x.ws, Stay S W (fun W' => Ls .u8 W' y.ka y.kc y.K ∧ RdR W' y.r.ra y.r.R)
  wok : ∀ y ∈ x.ws, y.t < m.tabs.length ∧ keyOk y.K ∧ (y.r.R ≠ [] → rOk y.r.P)
  rown : W.ownsRow base 81 2 x.rv x.rs.length (cellsOf rcl x.rs)
  rst : ∀ y ∈ x.rs, Stay S W (fun W' => PairsR W' y.pa y.P)
  coh : ∀ (t : Nat) (y : Nat × List (List Int × Nat)), x.wm[t]? = some y → ∀ (K : List Int) (i : Nat), getM y.2 K = some i ↔ ∃ w : WtV, x.ws[i]? = some w ∧ w.t = t ∧ w.K = K
  hp : S x.px
  hm : ∀ y ∈ x.wm, S y.1
  hw : ∀ g, x.wv.ownBlock = some g → S g
  hr : ∀ g, x.rv.ownBlock = some g → S g
  nod : (x.wm.map Prod.fst).Nodup
  old : ∀ y ∈ m.tabs, y.1 < base
  lo : base ≤ x.px
  low : ∀ y ∈ x.wm, base ≤ y.1
  wl : ∀ y ∈ x.wm, y.2.length ≤ x.ws.length
  few : x.ws.length ≤ 1000
  rfew : x.rs.length ≤ 1000
/-- What a key has, in a trial. -/
def getX (m : Md) (x : Tl) (t : Nat) (K : List Int) : Option RV :=
  match x.ws.find? fun w : WtV => decide (w.t = t ∧ w.K = K) with
  | some w => if w.r.R = [] then none else some w.r
  | none => match m.tabs[t]? with
    | some y => getM y.2 K
    | none => none
theorem TlR.find_some {S : Nat → Prop} {base : Nat} {W : World} {m : Md} {x : Tl} (h : TlR S base W m x) {t : Nat} {y : Nat × List (List Int × Nat)} (hy : x.wm[t]? = some y) {K : List Int} {i : Nat} (hi : getM y.2 K = some i) :
    ∃ w, x.ws[i]? = some w ∧ x.ws.find? (fun w : WtV => decide (w.t = t ∧ w.K = K)) = some w ∧ w.t = t ∧ w.K = K := by
  obtain ⟨w, h1, h2, h3⟩ := (h.coh t y hy K i).1 hi
  refine ⟨w, h1, ?_, h2, h3⟩
  cases hf : x.ws.find? (fun w : WtV => decide (w.t = t ∧ w.K = K)) with
  | none =>
    rw [List.find?_eq_none] at hf
    have := hf w (List.mem_of_getElem? h1)
    simp [h2, h3] at this
  | some w' =>
    have hp := List.find?_some hf
    simp only [decide_eq_true_eq] at hp
    obtain ⟨j, hj⟩ := List.mem_iff_getElem?.1 (List.mem_of_find?_eq_some hf)
    have := (h.coh t y hy K j).2 ⟨w', hj, hp.1, hp.2⟩
    rw [hi] at this
    cases this
    rw [h1] at hj
    exact hj.symm
theorem TlR.find_none {S : Nat → Prop} {base : Nat} {W : World} {m : Md} {x : Tl} (h : TlR S base W m x) {t : Nat} {y : Nat × List (List Int × Nat)} (hy : x.wm[t]? = some y) {K : List Int} (hi : getM y.2 K = none) :
    x.ws.find? (fun w : WtV => decide (w.t = t ∧ w.K = K)) = none := by
  rw [List.find?_eq_none]
  intro w hw
  simp only [decide_eq_true_eq]
  intro hp
  obtain ⟨j, hj⟩ := List.mem_iff_getElem?.1 hw
  have := (h.coh t y hy K j).2 ⟨w, hj, hp.1, hp.2⟩
  rw [hi] at this
  cases this
theorem TlR.c {S : Nat → Prop} {base : Nat} {W : World} {m : Md} {x : Tl} (h : TlR S base W m x) : W.cell? ⟨x.px, 0, none⟩ = some (.pointer (some ⟨m.p, 0, none⟩)) ∧ W.cell? ⟨x.px, 1, none⟩ = some (.slice (some ⟨x.bw, 0, none⟩) x.wm.length x.wc) ∧ W.cell? ⟨x.px, 2, none⟩ = some x.wv ∧ W.cell? ⟨x.px, 3, none⟩ = some x.rv ∧ W.cell? ⟨x.px, 4, none⟩ = some (.func (.func 107) #[] #[.pointer (some ⟨x.bx, 0, none⟩), .pointer (some ⟨x.bm, 0, none⟩)]) := by
  refine ⟨?_, ?_, ?_, ?_, ?_⟩ <;> (rw [h.box.cell]; rfl)
theorem zero3 (w : World) : (zeroValue 3).run Tryz.prog w = .ok (.int .i64 0) w := by kernel_rfl
theorem key_max {K : List Int} (h : K.length ≤ 1000000) : K.length ≤ maxLen := by unfold maxLen; omega
/-- What get answers: the row as it lies; what there is where there is none is not asked. -/
def GxR (o : Option RV) (w : World) (r : Ending) (w' : World) : Prop := (∃ v, r = .returned (.tuple #[v, .bool o.isSome]) ∧ ∀ y, o = some y → v = y.v) ∧ w = w'
set_option maxRecDepth 100000 in
set_option maxHeartbeats 4000000 in
/-- get (107). -/
theorem tget_law {S : Nat → Prop} {base : Nat} {w : World} {m : Md} {x : Tl} (h : TlR S base w m x) (t : Nat) (ht : t < m.tabs.length) (K : List Int) (bK : Byt K) (hK : K.length ≤ 1000000) :
    Calls Tryz.prog 107 #[.int .i64 (t : Int), .string (strOfNums K), .pointer (some ⟨x.bx, 0, none⟩), .pointer (some ⟨x.bm, 0, none⟩)] w (GxR (getX m x t K) w) := by
  obtain ⟨y, hy⟩ : ∃ y, x.wm[t]? = some y := ⟨_, List.getElem?_eq_getElem (by rw [h.wlen]; exact ht)⟩
  obtain ⟨z, hz⟩ : ∃ z, m.tabs[t]? = some z := ⟨_, List.getElem?_eq_getElem ht⟩
  obtain ⟨c0, c1, c2, c3, c4⟩ := h.c
  have v0 := h.st.now.vx.cell 0
  have v1 := h.st.now.vm.cell 0
  have d0 := h.md.c
  have e0 := h.st.now.tab t y hy
  have e1 := h.md.st.now.tab t z hz
  have hfew := h.md.few
  have hwl := h.wlen
  have ht0 : ¬ (t : Int) < 0 := by omega
  have ht1 : (t : Int) < (m.tabs.length : Int) := by omega
  have ht2 : (t : Int) < (x.wm.length : Int) := by omega
  have hl1 : (m.tabs.length : Int) ≤ 1000000 := by omega
  have hl2 : (x.wm.length : Int) ≤ 1000000 := by omega
  have hlk := (h.wmaps y (List.mem_of_getElem? hy)).look (t := 173) (e := 3) Tryz.underlying173 (zero3 w) bK (key_max hK)
  have hlm := (h.md.maps z (List.mem_of_getElem? hz)).look (t := 90) (e := 50) Tryz.underlying90 (zero50 w) bK (key_max hK)
  cases hi : getM y.2 K with
  | none =>
    have hf := h.find_none hy hi
    have hX : getX m x t K = getM z.2 K := by unfold getX; rw [hf, hz]
    rw [hX]
    obtain ⟨o, ho⟩ : ∃ o, getM z.2 K = o := ⟨_, rfl⟩
    rw [ho] at hlm ⊢
    rw [hi] at hlk
    obtain ⟨u, hu⟩ : ∃ u, (o.map RV.v).getD (.slice none 0 0) = u := ⟨_, rfl⟩
    have HU := Lib.hid (fun y (e : o = some y) => (by rw [← hu, e]; rfl : u = y.v))
    rw [hu] at hlm
    obtain ⟨q, hq⟩ : ∃ q, o.isSome = q := ⟨_, rfl⟩
    rw [hq] at hlm
    have HQ := Lib.hid hq
    simp only [Option.map_none, Option.getD_none, Option.isSome_none] at hlk
    clear hi hf hX ho hu hq h hz hy hwl ht bK hK hfew
    go_enter Tryz.func107, Tryz.ntmps107
    go_wp2_with fail
    go_ret2
    exact ⟨⟨_, by rw [HQ.out]; rfl, HU.out⟩, rfl⟩
  | some i =>
    obtain ⟨wt, h1, hf, _, _⟩ := h.find_some hy hi
    have hX : getX m x t K = if wt.r.R = [] then none else some wt.r := by unfold getX; rw [hf]
    rw [hX]
    rw [hi] at hlk
    simp only [Option.map_some, Option.getD_some, Option.isSome_some, iV] at hlk
    obtain ⟨a4, c5, hv⟩ := own_form22 h.own
    have ho := h.own
    rw [hv] at ho c2
    obtain ⟨g, rfl, hg, hcl⟩ := own_cell22 wcl_len (by omega) ho rfl i wt h1
    have f2 : w.cell? ⟨g, i * 3 + 2, none⟩ = some (.slice wt.r.ra wt.r.R.length wt.r.rc) := hcl 2 (by omega)
    have hi1 := (List.getElem?_eq_some_iff.1 h1).1
    have hwf := h.few
    have hi2 : (i : Int) < (x.ws.length : Int) := by omega
    have hi3 : ¬ (i : Int) < 0 := by omega
    have hi4 : (x.ws.length : Int) ≤ 1000000 := by omega
    clear hi hf hX h hz hy hwl ht bK hK hfew h1 ho hcl hg hv hi1 hwf hlm
    by_cases hR : wt.r.R = []
    · rw [if_pos hR]
      have hn : wt.r.R.length = 0 := by rw [hR]; rfl
      rw [hn] at f2
      clear hR hn
      go_enter Tryz.func107, Tryz.ntmps107
      go_wp2_with fail
      go_ret2
      exact ⟨⟨_, rfl, fun y e => by cases e⟩, rfl⟩
    · rw [if_neg hR]
      have hn : (0 : Int) < (wt.r.R.length : Int) := by have := List.length_pos_iff.2 hR; omega
      have HN := Lib.hid (show decide (0 < wt.r.R.length) = true by simp; exact List.length_pos_iff.2 hR)
      have HV := Lib.hid (show (.slice wt.r.ra wt.r.R.length wt.r.rc) = wt.r.v from rfl)
      clear hR
      go_enter Tryz.func107, Tryz.ntmps107
      go_wp2_with fail
      go_ret2
      refine ⟨⟨.slice wt.r.ra wt.r.R.length wt.r.rc, ?_, fun y e => by cases e; exact HV.out⟩, rfl⟩
      show Ending.returned (.tuple #[_, .bool (decide (0 < wt.r.R.length))]) = _
      rw [HN.out]
      rfl
end Go.Proofs.YthmofoldmdafoaaGreat
namespace Go.Proofs.YthmofoldmdafoaaGreat
open Go.ChangeShapes Go.WideShapes Go.ChangeAt Go.RowKit Go.Maps
set_option linter.unusedVariables false
set_option linter.unusedSimpArgs false

theorem bl1 (X : World) (o : Obj) : Below X.heap.size X (X.alloc o) := (Below.refl _ _).alloc (Nat.le_refl _) o
theorem Mp.store {α : Type} {val : α → Value} {W : World} {b t e : Nat} {L : List (List Int × α)} (h : Mp W b val L) (ht : Tryz.prog.underlying t = some (.map 9 e)) {K : List Int} (hK : Byt K) (hn : K.length ≤ 1000000) (hl : L.length ≤ 1000000) (v : α) :
    ∃ w', (Instr.mapUpdate t (.map (some b)) (.string (strOfNums K)) (val v)).run Tryz.prog W = .ok () w' ∧ Mp w' b val (setM L K (some v)) ∧ W.grownBy w' (some b) := by
  obtain ⟨w', hrun, hm, ht⟩ := h.own.store law9 ht (by unfold maxLen; omega) (keyK (key_max hn)) (show RF (val v) = some (.held (val v), []) from rfl)
  exact ⟨w', hrun, h.put hK v hm, ht.grown⟩
theorem cells_set {α : Type} {f : α → List Value} {sz : Nat} (hf : ∀ x, (f x).length = sz) (hs : 0 < sz) : ∀ (xs : List α) (k j : Nat) (x x' : α) (u : Value), xs[k]? = some x → j < sz → f x' = (f x).set j u → (cellsOf f xs).set (k * sz + j) u = cellsOf f (xs.set k x')
  | [], k, j, x, x', u, h, _, _ => by simp at h
  | y :: xs, 0, j, x, x', u, h, hj, he => by
    simp only [List.getElem?_cons_zero, Option.some.injEq] at h
    subst h
    unfold cellsOf
    rw [List.map_cons, List.flatten_cons, List.set_cons_zero, List.map_cons, List.flatten_cons, he, Nat.zero_mul, Nat.zero_add, List.set_append_left _ _ (by rw [hf]; exact hj)]
  | y :: xs, k + 1, j, x, x', u, h, hj, he => by
    have ih := cells_set hf hs xs k j x x' u (by simpa using h) hj he
    unfold cellsOf at *
    rw [List.map_cons, List.flatten_cons, List.set_cons_succ, List.map_cons, List.flatten_cons, List.set_append_right _ _ (by rw [hf, Nat.add_mul]; omega)]
    rw [show (k + 1) * sz + j - (f y).length = k * sz + j by rw [hf, Nat.add_mul]; omega, ih]
theorem own_blk {W : World} {base n size : Nat} {e : TypeId} {v : Value} {xs : List Value} (h : W.ownsRow base e size v n xs) {g : Nat} (hg : v.ownBlock = some g) : base ≤ g ∧ g < W.heap.size ∧ ∃ cur, BoxC W g cur e := by
  rcases h.2 with ⟨e0, h0⟩ | ⟨g', cap, cur, e0, hb, hh, _⟩
  · subst e0; cases hg
  · subst e0
    simp [Value.ownBlock] at hg
    subst hg
    exact ⟨hb, (Array.getElem?_eq_some_iff.1 hh).1, cur, hh⟩
theorem own_offb {S : Nat → Prop} {W W' : World} {base n size : Nat} {e : TypeId} {v : Value} {xs : List Value} (h : W.ownsRow base e size v n xs) (o : Off S W W') (hs : ∀ g, v.ownBlock = some g → ¬ S g) : W'.ownsRow base e size v n xs :=
  ⟨h.1, h.2.imp id fun ⟨g, cap, cur, e0, hb, hg, r⟩ => ⟨g, cap, cur, e0, hb, (o.block g (Array.getElem?_eq_some_iff.1 hg).1 (hs g (by subst e0; rfl))).trans hg, r⟩⟩
theorem Mp.obj {α : Type} {val : α → Value} {W : World} {b : Nat} {L : List (List Int × α)} (h : Mp W b val L) : ∃ o : Obj, W.heap[b]? = some o ∧ o.isCells = false := by
  obtain ⟨es, c, hb, _⟩ := h.own
  exact ⟨_, hb, rfl⟩
theorem Mp.ne_box {α : Type} {val : α → Value} {W : World} {b B : Nat} {L : List (List Int × α)} (h : Mp W b val L) {cs : Array Value} {t : TypeId} (hb : BoxC W B cs t) : b ≠ B := fun e => by
  obtain ⟨o, h1, h2⟩ := h.obj
  subst e
  rw [show W.heap[b]? = _ from hb] at h1
  cases h1; cases h2
theorem box_ne {W : World} {b B : Nat} {cs cs' : Array Value} {t t' : TypeId} (h : BoxC W b cs t) (h' : BoxC W B cs' t') (ht : t ≠ t') : b ≠ B := fun e => by
  subst e
  have := (show W.heap[b]? = _ from h).symm.trans h'
  injection this with this
  injection this with _ this
  exact ht this
/-- What is owned, from above the blocks of S on, stays. -/
theorem own_stay {S : Nat → Prop} {W : World} {base n c : Nat} {a : Option Addr} {L : List Int} (h : W.ownsRow base 5 1 (.slice a n c) n (iv .u8 L)) (hn : L.length = n) (hs : ∀ k, S k → k < base) : Stay S W fun W' => Ls .u8 W' a c L := fun W' o =>
  ls_own22 (own_off22 h o hs) hn
theorem cpR_stay {S : Nat → Prop} {W : World} {base n : Nat} {R : List P1} {v : Value} (h : CpR base R n v W) (hn : R.length = n) (hs : ∀ k, S k → k < base) :
    ∃ a c R', v = .slice a n c ∧ R'.length = n ∧ R'.map P1.bs = R.map P1.bs ∧ Stay S W fun W' => RdR W' a R' := by
  obtain ⟨R', h1, h2, h3⟩ := h.ex
  rw [List.take_of_length_le (by omega)] at h1
  have hl : R'.length = n := by have := congrArg List.length h1; simpa [hn] using this
  obtain ⟨a, c, rfl⟩ := own_form22 h2
  exact ⟨a, c, R', rfl, hl, h1, fun W' o => rd_own22 (own_off22 h2 o hs) hl fun p hp => own_off22 (h3 p hp) o hs⟩
/-- The blocks that a trial's calls may change. -/
def Mut (x : Tl) (k : Nat) : Prop := k = x.px ∨ (∃ y ∈ x.wm, k = y.1) ∨ x.wv.ownBlock = some k
theorem TlR.mut {S : Nat → Prop} {base : Nat} {W : World} {m : Md} {x : Tl} (h : TlR S base W m x) : ∀ k, Mut x k → S k ∧ base ≤ k := fun k hk => by
  rcases hk with rfl | ⟨y, hy, rfl⟩ | hk
  · exact ⟨h.hp, h.lo⟩
  · exact ⟨h.hm y hy, h.low y hy⟩
  · exact ⟨h.hw k hk, (own_blk h.own hk).1⟩
/-- A trial's step: what it may change. -/
structure TSt (S S' : Nat → Prop) (base : Nat) (w : World) (m : Md) (x : Tl) (w' : World) (x' : Tl) : Prop where
  tl : TlR S' base w' m x'
  su : ∀ k, S k → S' k
  sd : ∀ k, S' k → S k ∨ w.heap.size ≤ k
  off : Off (Mut x) w w'
  mu : ∀ k, Mut x' k → Mut x k ∨ w.heap.size ≤ k
  px : x'.px = x.px
  bx : x'.bx = x.bx
  bm : x'.bm = x.bm
  rv : x'.rv = x.rv
  rs : x'.rs = x.rs
/-- A trial that went on. -/
theorem TlR.next {S T : Nat → Prop} {base : Nat} {w w' : World} {m : Md} {x : Tl} (h : TlR S base w m x) (o : Off T w w') (hT : ∀ k, T k → S k ∧ base ≤ k) (x' : Tl) (e1 : x'.px = x.px) (e2 : x'.bx = x.bx) (e3 : x'.bm = x.bm) (e4 : x'.bw = x.bw) (e5 : x'.wm.map Prod.fst = x.wm.map Prod.fst)
    (hbox : BoxC w' x.px (x'.cs m) 123) (hmaps : ∀ y ∈ x'.wm, Mp w' y.1 iV y.2) (how : w'.ownsRow base 84 3 x'.wv x'.ws.length (cellsOf wcl x'.ws)) (hro : w'.ownsRow base 81 2 x'.rv x'.rs.length (cellsOf rcl x'.rs))
    (S' : Nat → Prop) (hS : ∀ k, S k → S' k) (hS' : ∀ k, S' k → S k ∨ w.heap.size ≤ k) (hb : ∀ k, S' k → k < w'.heap.size) (hgw : ∀ g, x'.wv.ownBlock = some g → S' g) (hgr : ∀ g, x'.rv.ownBlock = some g → S' g)
    (hwst : ∀ y ∈ x'.ws, Stay S' w' (fun W' => Ls .u8 W' y.ka y.kc y.K ∧ RdR W' y.r.ra y.r.R)) (hwok : ∀ y ∈ x'.ws, y.t < m.tabs.length ∧ keyOk y.K ∧ (y.r.R ≠ [] → rOk y.r.P)) (hrst : ∀ y ∈ x'.rs, Stay S' w' (fun W' => PairsR W' y.pa y.P))
    (hcoh : ∀ (t : Nat) (y : Nat × List (List Int × Nat)), x'.wm[t]? = some y → ∀ (K : List Int) (i : Nat), getM y.2 K = some i ↔ ∃ w : WtV, x'.ws[i]? = some w ∧ w.t = t ∧ w.K = K) (hwl : ∀ y ∈ x'.wm, y.2.length ≤ x'.ws.length) (hf : x'.ws.length ≤ 1000) (hrf : x'.rs.length ≤ 1000) : TlR S' base w' m x' := by
  have hel : x'.wm.length = x.wm.length := by have := congrArg List.length e5; simpa using this
  have hmem : ∀ y ∈ x'.wm, ∃ z ∈ x.wm, z.1 = y.1 := fun y hy => by
    have : y.1 ∈ x.wm.map Prod.fst := by rw [← e5]; exact List.mem_map.2 ⟨y, hy, rfl⟩
    obtain ⟨z, hz, e⟩ := List.mem_map.1 this
    exact ⟨z, hz, e⟩
  refine ⟨h.md.off o (fun k hk => (hT k hk).1) (fun y hy hk => ?_) (fun k hk => (hS' k hk)) fun y hy => hS _ (h.md.hS y hy), hb, by rw [e1]; exact hbox, ?_, hmaps, hel.trans h.wlen, how, hwst, hwok, hro, hrst, hcoh, by rw [e1]; exact hS _ h.hp, ?_, hgw, hgr, by rw [e5]; exact h.nod, h.old, by rw [e1]; exact h.lo, ?_, hwl, hf, hrf⟩
  · have := h.old y hy
    have := (hT _ hk).2
    omega
  · refine ((h.st.step (o.mono fun k hk => (hT k hk).1) hS').mono fun W hW => ⟨by rw [e1, e2]; exact hW.vx, by rw [e3]; exact hW.vm, fun k y hy => ?_⟩)
    have hk : k < x.wm.length := by rw [← hel]; exact (List.getElem?_eq_some_iff.1 hy).1
    have := hW.tab k _ (List.getElem?_eq_getElem hk)
    rw [e4, this]
    have h2 : (x'.wm.map Prod.fst)[k]? = (x.wm.map Prod.fst)[k]? := by rw [e5]
    rw [List.getElem?_map, List.getElem?_map, hy, List.getElem?_eq_getElem hk] at h2
    simp at h2
    rw [h2]
  · intro y hy
    obtain ⟨z, hz, e⟩ := hmem y hy
    rw [← e]; exact hS _ (h.hm z hz)
  · intro y hy
    obtain ⟨z, hz, e⟩ := hmem y hy
    rw [← e]; exact h.low z hz
theorem TlR.keepw {S S' T : Nat → Prop} {base : Nat} {w w' : World} {m : Md} {x : Tl} (h : TlR S base w m x) (o : Off T w w') (hT : ∀ k, T k → S k ∧ base ≤ k) (hS' : ∀ k, S' k → S k ∨ w.heap.size ≤ k) : ∀ y ∈ x.ws, Stay S' w' (fun W' => Ls .u8 W' y.ka y.kc y.K ∧ RdR W' y.r.ra y.r.R) :=
  fun y hy => (h.wst y hy).step (o.mono fun k hk => (hT k hk).1) hS'
theorem TlR.keepr {S S' T : Nat → Prop} {base : Nat} {w w' : World} {m : Md} {x : Tl} (h : TlR S base w m x) (o : Off T w w') (hT : ∀ k, T k → S k ∧ base ≤ k) (hS' : ∀ k, S' k → S k ∨ w.heap.size ≤ k) : ∀ y ∈ x.rs, Stay S' w' (fun W' => PairsR W' y.pa y.P) :=
  fun y hy => (h.rst y hy).step (o.mono fun k hk => (hT k hk).1) hS'
/-- Nothing below is changed, and the trial goes on as it was. -/
theorem TlR.below {S : Nat → Prop} {base : Nat} {w w' : World} {m : Md} {x : Tl} (h : TlR S base w m x) (b : Below w.heap.size w w') : TlR S base w' m x := by
  have o : Off (fun _ => False) w w' := Off.of b
  have hT : ∀ k, (fun _ : Nat => False) k → S k ∧ base ≤ k := fun k hk => hk.elim
  have hS' : ∀ k, S k → S k ∨ w.heap.size ≤ k := fun k hk => .inl hk
  exact h.next o hT x rfl rfl rfl rfl rfl (h.box.below b) (fun y hy => (h.wmaps y hy).below b) (own_kept h.own b) (own_kept h.rown b) S (fun _ h => h) hS' (fun k hk => Nat.lt_of_lt_of_le (h.bd k hk) b.size) h.hw h.hr (h.keepw o hT hS') h.wok (h.keepr o hT hS') h.coh h.wl h.few h.rfew
end Go.Proofs.YthmofoldmdafoaaGreat
namespace Go.Proofs.YthmofoldmdafoaaGreat
open Go.ChangeShapes Go.WideShapes Go.ChangeAt Go.RowKit Go.Maps
set_option linter.unusedVariables false
set_option linter.unusedSimpArgs false

set_option maxRecDepth 100000 in
set_option maxHeartbeats 4000000 in
theorem tset_dev {S : Nat → Prop} {base : Nat} {w : World} {m : Md} {x : Tl} (h : TlR S base w m x) (hbs : base ≤ w.heap.size) (t : Nat) (ht : t < m.tabs.length) (K : List Int) (ok : keyOk K) (ka : Option Addr) (kn kc : Nat) (hK : K.length = kn) (hk : Ls .u8 w ka kc K)
    (ra : Option Addr) (rn rc : Nat) (R : List P1) (hR : R.length = rn) (okR : R ≠ [] → rOk (R.map P1.bs)) (hr : RdR w ra R) (hf : x.ws.length < 1000) (y : Nat × List (List Int × Nat)) (hy : x.wm[t]? = some y) (i : Nat) (hi : getM y.2 K = some i) :
    Calls Tryz.prog 140 #[.pointer (some ⟨x.px, 0, none⟩), .int .i64 (t : Int), .slice ka kn kc, .slice ra rn rc] w fun r w' => r = .returned (.tuple #[]) ∧ ∃ wt a8 c8 R8 w8 g c, x.ws[i]? = some wt ∧ wt.t = t ∧ wt.K = K ∧ x.wv = .slice (some ⟨g, 0, none⟩) x.ws.length c ∧ w' = w8.setCell ⟨g, i * 3 + 2, none⟩ (.slice a8 rn c8) ∧ R8.length = rn ∧ R8.map P1.bs = R.map P1.bs ∧ Below w.heap.size w w8 ∧ Stay S w8 (fun W => RdR W a8 R8) := by
  obtain ⟨wt, h1, _, hwt, hwk⟩ := h.find_some hy hi
  obtain ⟨c0, c1, c2, c3, c4⟩ := h.c
  have hfew := h.md.few
  have hwl := h.wlen
  have ht0 : ¬ (t : Int) < 0 := by omega
  have ht2 : (t : Int) < (x.wm.length : Int) := by omega
  have hl2 : (x.wm.length : Int) ≤ 1000000 := by omega
  have hkn : kn ≤ 1000000 := by have := ok.2; omega
  have HX := Lib.hid (fun X (b : Below w.heap.size w X) => (⟨(b.cell (World.block_lt_of_cell? w _ c1)).trans c1, (h.below b).st.now.tab t y hy, conv_ls X ka kn kc K hK (hk.below b).rd, by have := ((h.below b).wmaps y (List.mem_of_getElem? hy)).look (t := 173) (e := 3) Tryz.underlying173 (zero3 X) ok.1 (key_max (by omega)); rw [hi] at this; exact this⟩ : X.cell? ⟨x.px, 1, none⟩ = some (.slice (some ⟨x.bw, 0, none⟩) x.wm.length x.wc) ∧ X.cell? ⟨x.bw, t, none⟩ = some (.map (some y.1)) ∧ (convert 42 9 (.slice ka kn kc)).run Tryz.prog X = .ok (.string (strOfNums K)) X ∧ (Instr.lookup 173 (.map (some y.1)) (.string (strOfNums K)) true).run Tryz.prog X = .ok (.tuple #[.int .i64 (i : Int), .bool true]) X))
  obtain ⟨a4, c5, hv⟩ := own_form22 h.own
  have ho := h.own
  rw [hv] at ho c2
  obtain ⟨g, rfl, hg, hcl⟩ := own_cell22 wcl_len (by omega) ho rfl i wt h1
  have HW5 := Lib.hid (fun X (b : Below w.heap.size w X) => (b.cell (World.block_lt_of_cell? w _ c2)).trans c2)
  have HZ5 := Lib.hid (fun X (b : Below w.heap.size w X) => (by
    have ow := own_kept ho b
    obtain ⟨g', e, _, hh⟩ := own_cell22 wcl_len (by omega) ow rfl i wt h1
    cases e
    exact ⟨hh 2 (by omega), ow.frozenAt _⟩ : X.cell? ⟨g, i * 3 + 2, none⟩ = some (.slice wt.r.ra wt.r.R.length wt.r.rc) ∧ X.frozen? ⟨g, i * 3 + 2, none⟩ = false))
  have HRR := Lib.hid (And.intro hR (And.intro (show rn ≤ 9000 by
    by_cases e : R = []
    · rw [← hR, e]; simp
    · have := (okR e).2.1; rw [List.length_map] at this; omega) (And.intro (show ∀ q ∈ R, q.bs.length ≤ 9000 from fun q hq => by
    have := ((okR (fun e => by rw [e] at hq; simp at hq)).2.2 q.bs (List.mem_map.2 ⟨q, hq, rfl⟩)).2; omega) (fun X (b : Below w.heap.size w X) => hr.below b))))
  have hi1 := (List.getElem?_eq_some_iff.1 h1).1
  have hi2 : (i : Int) < (x.ws.length : Int) := by omega
  have hi3 : ¬ (i : Int) < 0 := by omega
  have hi4 : (x.ws.length : Int) ≤ 1000000 := by omega
  have HFIN := Lib.hid (And.intro h1 (And.intro hwt (And.intro hwk hv)))
  have HBD := Lib.hid h.bd
  clear hi h hy hwl ht ok hK hfew h1 ho hcl hg hv hi1 hk hr okR hR hwt hwk c0 c1 c2 c3 c4
  go_enter Tryz.func140, Tryz.ntmps140
  go_upto_region 0 with (fail)
  refine wp_region_held_drew (S := (fun X => Below w.heap.size w X)) (by kernel_rfl) ((Below.refl _ _).drew) (fun hHeld => ?_)
  refine tp 0 ?_ rfl (.inl ⟨by rfl, ?_⟩) ?_
  rotate_left
  · intro W hSw; go_simp; try with_reducible rfl
  refine tp 1 ?_ rfl (.inl ⟨by rfl, ?_⟩) ?_
  rotate_left
  · intro W hSw; go_simp; try with_reducible rfl
  refine tp 2 ?_ rfl (.inl ⟨by rfl, ?_⟩) ?_
  rotate_left
  · intro W hSw; go_simp; try with_reducible rfl
  refine tp 3 ?_ rfl (.inl ⟨by rfl, ?_⟩) ?_
  rotate_left
  · intro W hSw; have m := (HX.out W hSw).1; go_simp; try with_reducible rfl
  refine tp 4 ?_ rfl (.inl ⟨by rfl, ?_⟩) ?_
  rotate_left
  · intro W hSw; go_simp; try with_reducible rfl
  refine tp 5 ?_ rfl (.inl ⟨by rfl, ?_⟩) ?_
  rotate_left
  · intro W hSw; go_simp; try with_reducible rfl
  refine tp 6 ?_ rfl (.inl ⟨by rfl, ?_⟩) ?_
  rotate_left
  · intro W hSw; have m := (HX.out W hSw).2.1; go_simp; try with_reducible rfl
  refine tp 7 ?_ rfl (.inl ⟨by rfl, ?_⟩) ?_
  rotate_left
  · intro W hSw; go_simp; try with_reducible rfl
  refine tp 8 ?_ rfl (.inl ⟨by rfl, ?_⟩) ?_
  rotate_left
  · intro W hSw; have m := (HX.out W hSw).2.2.1; go_simp; try with_reducible rfl
  refine tp 9 ?_ rfl (.inl ⟨by rfl, ?_⟩) ?_
  rotate_left
  · intro W hSw; have m := (HX.out W hSw).2.2.2; go_simp; try with_reducible rfl
  refine tp 10 ?_ rfl (.inl ⟨by rfl, ?_⟩) ?_
  rotate_left
  · intro W hSw; go_simp; try with_reducible rfl
  refine tp 11 ?_ rfl (.inl ⟨by rfl, ?_⟩) ?_
  rotate_left
  · intro W hSw; go_simp; try with_reducible rfl
  refine tp 12 ?_ rfl (.inl ⟨by rfl, ?_⟩) ?_
  rotate_left
  · intro W hSw; go_simp; try with_reducible rfl
  refine tp 13 ?_ rfl (.inl ⟨by rfl, ?_⟩) ?_
  rotate_left
  · intro W hSw; go_simp; try with_reducible rfl
  refine tp 14 ?_ rfl (.inl ⟨by rfl, ?_⟩) ?_
  rotate_left
  · intro W hSw; go_simp; try with_reducible rfl
  refine wpAnyH_done (by kernel_rfl) ?_ _
  skip
  generalize w.drew = W1 at hHeld ⊢
  have HBK := Lib.hid hHeld
  go_upto_region 5 with (fail)
  have HW5 := Lib.hid (fun X (b : Below W1.heap.size W1 X) => HW5.out X (HBK.out.trans (b.mono HBK.out.size)))
  have HZ5 := Lib.hid (fun X (b : Below W1.heap.size W1 X) => HZ5.out X (HBK.out.trans (b.mono HBK.out.size)))
  clear hHeld
  refine wp_region_last (z := 9) (S := (fun X => Below W1.heap.size W1 X)) (by kernel_rfl) ((Below.refl _ _).drew) (fun hHeld => ?_)
  refine wpAnyL_take (i := 0) (oi := { dst := some 53, op := Op.move (Operand.tmp 0), type := 117, pos := "trial.go:58", after := #[], guard := none }) (v := ?_) (by kernel_rfl) rfl (by kernel_rfl) rfl (by kernel_rfl) (by kernel_rfl) (by kernel_rfl) (fun _ _ _ h => h) (Or.inl ⟨by rfl, ?_⟩) (by assumption) ?_
  rotate_left
  · intro W hSw; go_simp; try with_reducible rfl
  try simp only [Act.put, List.setIfInBounds_toArray, List.set_cons_zero, List.set_cons_succ]
  refine wpAnyL_take (i := 1) (oi := { dst := some 54, op := Op.nilCheck (Operand.tmp 53), type := 0, pos := "trial.go:58", after := #[{ on := 0, ground := Ground.data }], guard := none }) (v := ?_) (by kernel_rfl) rfl (by kernel_rfl) rfl (by kernel_rfl) (by kernel_rfl) (by kernel_rfl) (fun _ _ _ h => h) (Or.inl ⟨by rfl, ?_⟩) (by assumption) ?_
  rotate_left
  · intro W hSw; go_simp; try with_reducible rfl
  try simp only [Act.put, List.setIfInBounds_toArray, List.set_cons_zero, List.set_cons_succ]
  refine wpAnyL_take (i := 2) (oi := { dst := some 55, op := Op.fieldAddr 123 (Operand.tmp 54) 2, type := 0, pos := "trial.go:58", after := #[{ on := 1, ground := Ground.data }], guard := none }) (v := ?_) (by kernel_rfl) rfl (by kernel_rfl) rfl (by kernel_rfl) (by kernel_rfl) (by kernel_rfl) (fun _ _ _ h => h) (Or.inl ⟨by rfl, ?_⟩) (by assumption) ?_
  rotate_left
  · intro W hSw; go_simp; try with_reducible rfl
  try simp only [Act.put, List.setIfInBounds_toArray, List.set_cons_zero, List.set_cons_succ]
  refine wpAnyL_take (i := 3) (oi := { dst := some 56, op := Op.load 41 (Operand.tmp 55), type := 41, pos := "trial.go:58", after := #[{ on := 2, ground := Ground.data }], guard := none }) (v := ?_) (by kernel_rfl) rfl (by kernel_rfl) rfl (by kernel_rfl) (by kernel_rfl) (by kernel_rfl) (fun _ _ _ h => h) (Or.inl ⟨by rfl, ?_⟩) (by assumption) ?_
  rotate_left
  · intro W hSw; have m := HW5.out W hSw; go_simp; try with_reducible rfl
  try simp only [Act.put, List.setIfInBounds_toArray, List.set_cons_zero, List.set_cons_succ]
  refine wpAnyL_take (i := 4) (oi := { dst := some 57, op := Op.move (Operand.tmp 8), type := 3, pos := "trial.go:58", after := #[], guard := none }) (v := ?_) (by kernel_rfl) rfl (by kernel_rfl) rfl (by kernel_rfl) (by kernel_rfl) (by kernel_rfl) (fun _ _ _ h => h) (Or.inl ⟨by rfl, ?_⟩) (by assumption) ?_
  rotate_left
  · intro W hSw; go_simp; try with_reducible rfl
  try simp only [Act.put, List.setIfInBounds_toArray, List.set_cons_zero, List.set_cons_succ]
  refine wpAnyL_take (i := 5) (oi := { dst := some 58, op := Op.move (Operand.tmp 3), type := 50, pos := "trial.go:58", after := #[], guard := none }) (v := ?_) (by kernel_rfl) rfl (by kernel_rfl) rfl (by kernel_rfl) (by kernel_rfl) (by kernel_rfl) (fun _ _ _ h => h) (Or.inl ⟨by rfl, ?_⟩) (by assumption) ?_
  rotate_left
  · intro W hSw; go_simp; try with_reducible rfl
  try simp only [Act.put, List.setIfInBounds_toArray, List.set_cons_zero, List.set_cons_succ]
  refine wpAnyL_ready (rs := [6]) (by kernel_rfl) (by simp) ?_
  refine AllL.cons (o := { dst := some 59, op := Op.call { callee := Callee.value (Operand.func 55), args := #[Operand.tmp 58], argTypes := #[50] }, type := 50, pos := "trial.go:58", after := #[{ on := 5, ground := Ground.data }], guard := none }) rfl (fun K hK => ?_) AllL.nil
  go_simp
  refine (rowcopy_law ra R rn rc HRR.out.1 HRR.out.2.1 HRR.out.2.2.1 _ (HRR.out.2.2.2 _ (HBK.out.trans (hHeld.mono HBK.out.size)))).mono ?_; rintro r w8 ⟨⟨v8, rfl, hc8⟩, hb8⟩
  obtain ⟨a8, c8, R8, hv8, hl8, hm8, hst8⟩ := cpR_stay (S := S) hc8 HRR.out.1 (fun k hk => Nat.lt_of_lt_of_le (HBD.out k hk) (Nat.le_trans HBK.out.size hHeld.size))
  subst hv8
  go_wp2_with fail
  have HC8 := Lib.hid (And.intro hl8 (And.intro hm8 hst8))
  have HB8 := Lib.hid (step_below hHeld hb8)
  refine hK.out _ _ HB8.out (fun hHeldn => ?_)
  clear hK K hHeld hc8 hb8 hl8 hm8 hst8; have hHeld := hHeldn; clear hHeldn
  try simp only [Act.put, List.setIfInBounds_toArray, List.set_cons_zero, List.set_cons_succ]
  refine wpAnyL_free (i := 7) (oi := { dst := some 60, op := Op.indexAddr 41 (Operand.tmp 56) (Operand.tmp 57), type := 0, pos := "trial.go:58", after := #[{ on := 3, ground := Ground.data }, { on := 4, ground := Ground.data }, { on := 0, ground := Ground.phase }, { on := 1, ground := Ground.phase }, { on := 2, ground := Ground.phase }, { on := 3, ground := Ground.phase }, { on := 4, ground := Ground.phase }, { on := 5, ground := Ground.phase }, { on := 6, ground := Ground.phase }], guard := none }) (v := ?_) (by kernel_rfl) rfl rfl (by kernel_rfl) (by kernel_rfl) (by kernel_rfl) (fun _ _ _ h => h) (Or.inl ⟨by rfl, ?_⟩) (by assumption) ?_
  rotate_left
  · intro W hSw; go_simp; try with_reducible rfl
  try simp only [Act.put, List.setIfInBounds_toArray, List.set_cons_zero, List.set_cons_succ]
  refine wpAnyL_take (i := 8) (oi := { dst := some 61, op := Op.fieldAddr 84 (Operand.tmp 60) 2, type := 0, pos := "trial.go:58", after := #[{ on := 7, ground := Ground.data }, { on := 0, ground := Ground.phase }, { on := 1, ground := Ground.phase }, { on := 2, ground := Ground.phase }, { on := 3, ground := Ground.phase }, { on := 4, ground := Ground.phase }, { on := 5, ground := Ground.phase }, { on := 6, ground := Ground.phase }], guard := none }) (v := ?_) (by kernel_rfl) rfl (by kernel_rfl) rfl (by kernel_rfl) (by kernel_rfl) (by kernel_rfl) (fun _ _ _ h => h) (Or.inl ⟨by rfl, ?_⟩) (by assumption) ?_
  rotate_left
  · intro W hSw; go_simp; try with_reducible rfl
  try simp only [Act.put, List.setIfInBounds_toArray, List.set_cons_zero, List.set_cons_succ]
  refine wpAnyL_ready (rs := [9]) (by kernel_rfl) (by simp) ?_
  refine AllL.last (o := { dst := none, op := Op.store 50 (Operand.tmp 61) (Operand.tmp 59), type := 0, pos := "trial.go:58", after := #[{ on := 8, ground := Ground.data }, { on := 6, ground := Ground.data }, { on := 6, ground := Ground.chain }, { on := 0, ground := Ground.phase }, { on := 1, ground := Ground.phase }, { on := 2, ground := Ground.phase }, { on := 3, ground := Ground.phase }, { on := 4, ground := Ground.phase }, { on := 5, ground := Ground.phase }, { on := 6, ground := Ground.phase }], guard := none }) rfl (fun K hK => ?_)
  have hz := HZ5.out _ hHeld
  obtain ⟨x4, f4⟩ := hz
  go_simp
  refine hK.out _ _ ?_
  clear hK K x4 f4
  try simp only [Act.put, List.setIfInBounds_toArray, List.set_cons_zero, List.set_cons_succ]
  refine wpAnyL_done (by kernel_rfl) ?_ _
  skip
  refine bodyPost_end (v := .tuple #[]) (by simp [results, Tryz.results140, go_sem]) rfl ?_
  have HFB := Lib.hid (HBK.out.trans (HB8.out.mono HBK.out.size))
  exact ⟨rfl, wt, a8, c8, R8, w8, g, c5, HFIN.out.1, HFIN.out.2.1, HFIN.out.2.2.1, HFIN.out.2.2.2, rfl, HC8.out.1, HC8.out.2.1, HFB.out, HC8.out.2.2⟩
end Go.Proofs.YthmofoldmdafoaaGreat
namespace Go.Proofs.YthmofoldmdafoaaGreat
open Go.ChangeShapes Go.WideShapes Go.ChangeAt Go.RowKit Go.Maps
set_option linter.unusedVariables false
set_option linter.unusedSimpArgs false

theorem Off.of_row {W W' : World} {row : Option Nat} (h : W.grownBy W' row) : Off (fun k => row = some k) W W' := ⟨h.os, h.tape, h.output, h.size, fun k hk hn => h.block k hk fun e => hn e.symm⟩
/-- A key's row in writes: in its place, or behind them. -/
def setW (l : List (Nat × List Int × List (List Int))) (t : Nat) (K : List Int) (R : List (List Int)) : List (Nat × List Int × List (List Int)) :=
  if l.any (fun w => decide (w.1 = t ∧ w.2.1 = K)) then l.map (fun w => if w.1 = t ∧ w.2.1 = K then (t, K, R) else w) else l ++ [(t, K, R)]
def WtV.P (y : WtV) : Nat × List Int × List (List Int) := (y.t, y.K, y.r.P)
theorem map_set_fst {α β : Type} {l : List (α × β)} {t : Nat} {y : α × β} {z : β} (h : l[t]? = some y) : (l.set t (y.1, z)).map Prod.fst = l.map Prod.fst := by
  apply List.ext_getElem?
  intro k
  rw [List.getElem?_map, List.getElem?_map]
  by_cases e : t = k
  · subst e
    rw [List.getElem?_set_self (List.getElem?_eq_some_iff.1 h).1, h]; rfl
  · rw [List.getElem?_set_ne e]
theorem Off.set2 {S : Nat → Prop} {W W' : World} (h : Off S W W') (p : Addr) (hp : S p.block ∨ W.heap.size ≤ p.block) (v : Value) : Off S W (W'.setCell p v) :=
  ⟨h.os, h.tape, h.output, by simpa using h.size, fun k hk hn => by
    have hne : k ≠ p.block := fun e => by
      subst e
      rcases hp with hp | hp
      · exact hn hp
      · omega
    rw [Below.heap_setCell _ _ _ k hne]
    exact h.block k hk hn⟩
theorem setM_len {α : Type} {L : List (List Int × α)} (h : Ris Prod.fst L) (K : List Int) (o : Option α) : (setM L K o).length ≤ L.length + 1 := by
  have h1 := congrArg List.length (ne_lt (K := K) h)
  have h2 := List.length_filter_le (fun p : List Int × α => !decide (p.1 = K)) L
  rw [List.length_append] at h1
  unfold setM
  rw [List.length_append, List.length_append, List.length_map]
  have h3 : o.toList.length ≤ 1 := by cases o <;> simp
  omega
theorem coh_new {L : List (List Int × Nat)} {ws : List WtV} {t : Nat} {K : List Int} (hL : Ris Prod.fst L) (h : ∀ (K : List Int) (i : Nat), getM L K = some i ↔ ∃ w : WtV, ws[i]? = some w ∧ w.t = t ∧ w.K = K) (hn : getM L K = none) (z : WtV) (hz : z.t = t) (hk : z.K = K) (K' : List Int) (i : Nat) :
    getM (setM L K (some ws.length)) K' = some i ↔ ∃ w : WtV, (ws ++ [z])[i]? = some w ∧ w.t = t ∧ w.K = K' := by
  rw [getM_set hL]
  by_cases e : K' = K
  · subst e
    rw [if_pos rfl]
    constructor
    · intro hi
      cases hi
      exact ⟨z, by simp, hz, hk⟩
    · rintro ⟨v, h1, h2, h3⟩
      by_cases hl : i < ws.length
      · rw [List.getElem?_append_left hl] at h1
        have := (h K' i).2 ⟨v, h1, h2, h3⟩
        rw [hn] at this; cases this
      · have := (List.getElem?_eq_some_iff.1 h1).1
        simp at this
        rw [show i = ws.length by omega]
  · rw [if_neg e, h]
    constructor
    · rintro ⟨v, h1, h2, h3⟩
      exact ⟨v, by rw [List.getElem?_append_left (List.getElem?_eq_some_iff.1 h1).1]; exact h1, h2, h3⟩
    · rintro ⟨v, h1, h2, h3⟩
      by_cases hl : i < ws.length
      · rw [List.getElem?_append_left hl] at h1
        exact ⟨v, h1, h2, h3⟩
      · have := (List.getElem?_eq_some_iff.1 h1).1
        simp at this
        rw [show i = ws.length by omega] at h1
        simp at h1
        subst h1
        exact absurd (h3.symm.trans hk) e
theorem coh_oth {L : List (List Int × Nat)} {ws : List WtV} {t : Nat} (h : ∀ (K : List Int) (i : Nat), getM L K = some i ↔ ∃ w : WtV, ws[i]? = some w ∧ w.t = t ∧ w.K = K) (z : WtV) (hz : z.t ≠ t) (K' : List Int) (i : Nat) :
    getM L K' = some i ↔ ∃ w : WtV, (ws ++ [z])[i]? = some w ∧ w.t = t ∧ w.K = K' := by
  rw [h]
  constructor
  · rintro ⟨v, h1, h2, h3⟩
    exact ⟨v, by rw [List.getElem?_append_left (List.getElem?_eq_some_iff.1 h1).1]; exact h1, h2, h3⟩
  · rintro ⟨v, h1, h2, h3⟩
    by_cases hl : i < ws.length
    · rw [List.getElem?_append_left hl] at h1
      exact ⟨v, h1, h2, h3⟩
    · have := (List.getElem?_eq_some_iff.1 h1).1
      simp at this
      rw [show i = ws.length by omega] at h1
      simp at h1
      subst h1
      exact absurd h2 hz
theorem setW_new {S : Nat → Prop} {base : Nat} {w : World} {m : Md} {x : Tl} (h : TlR S base w m x) {t : Nat} {y : Nat × List (List Int × Nat)} (hy : x.wm[t]? = some y) {K : List Int} (hi : getM y.2 K = none) (R : List (List Int)) : setW (x.ws.map WtV.P) t K R = x.ws.map WtV.P ++ [(t, K, R)] := by
  unfold setW
  rw [if_neg]
  simp only [List.any_map, List.any_eq_true, not_exists, not_and]
  intro z hz
  have := h.find_none hy hi
  rw [List.find?_eq_none] at this
  exact this z hz
set_option maxRecDepth 100000 in
set_option maxHeartbeats 4000000 in
theorem tset_new {S : Nat → Prop} {base : Nat} {w : World} {m : Md} {x : Tl} (h : TlR S base w m x) (hbs : base ≤ w.heap.size) (t : Nat) (ht : t < m.tabs.length) (Ky : List Int) (ok : keyOk Ky) (ka : Option Addr) (kn kc : Nat) (hK : Ky.length = kn) (hk : Stay S w fun W => Ls .u8 W ka kc Ky)
    (ra : Option Addr) (rn rc : Nat) (R : List P1) (hR : R.length = rn) (okR : R ≠ [] → rOk (R.map P1.bs)) (hr : Stay S w fun W => RdR W ra R) (hf : x.ws.length < 1000) (y : Nat × List (List Int × Nat)) (hy : x.wm[t]? = some y) (hi : getM y.2 Ky = none) (hyl : y.2.length ≤ 1000000) :
    Calls Tryz.prog 140 #[.pointer (some ⟨x.px, 0, none⟩), .int .i64 (t : Int), .slice ka kn kc, .slice ra rn rc] w fun r w' => r = .returned (.tuple #[]) ∧ ∃ S' x', TSt S S' base w m x w' x' ∧ x'.ws.map WtV.P = setW (x.ws.map WtV.P) t Ky (R.map P1.bs) := by
  obtain ⟨c0, c1, c2, c3, c4⟩ := h.c
  have hfew := h.md.few
  have hwl := h.wlen
  have ht0 : ¬ (t : Int) < 0 := by omega
  have ht2 : (t : Int) < (x.wm.length : Int) := by omega
  have hl2 : (x.wm.length : Int) ≤ 1000000 := by omega
  have hkn : kn ≤ 1000000 := by have := ok.2; omega
  have hym := List.mem_of_getElem? hy
  have HX := Lib.hid (fun X (b : Below w.heap.size w X) => (⟨(b.cell (World.block_lt_of_cell? w _ c1)).trans c1, (h.below b).st.now.tab t y hy, conv_ls X ka kn kc Ky hK (hk.below b).now.rd, by have := ((h.below b).wmaps y (List.mem_of_getElem? hy)).look (t := 173) (e := 3) Tryz.underlying173 (zero3 X) ok.1 (key_max (by omega)); rw [hi] at this; exact this⟩ : X.cell? ⟨x.px, 1, none⟩ = some (.slice (some ⟨x.bw, 0, none⟩) x.wm.length x.wc) ∧ X.cell? ⟨x.bw, t, none⟩ = some (.map (some y.1)) ∧ (convert 42 9 (.slice ka kn kc)).run Tryz.prog X = .ok (.string (strOfNums Ky)) X ∧ (Instr.lookup 173 (.map (some y.1)) (.string (strOfNums Ky)) true).run Tryz.prog X = .ok (.tuple #[.int .i64 0, .bool false]) X))
  obtain ⟨av, cv, hv⟩ := own_form22 h.own
  have ho := h.own
  rw [hv] at ho c2
  have HH := Lib.hid h
  have HM3 := Lib.hid (fun X (b : Below w.heap.size w X) => ((h.wmaps y hym).below b).store (t := 173) (e := 3) Tryz.underlying173 ok.1 (by omega) hyl x.ws.length)
  have hne1 : y.1 ≠ x.px := (h.wmaps y hym).ne_box h.box
  have hne2 : ∀ g, Value.ownBlock (.slice av x.ws.length cv) = some g → g ≠ y.1 ∧ g ≠ x.px := fun g hg => by
    obtain ⟨_, _, cur, hb⟩ := own_blk ho hg
    exact ⟨fun e => (h.wmaps y hym).ne_box hb e.symm, box_ne hb h.box (by decide)⟩
  have HNE := Lib.hid (And.intro hne1 hne2)
  have HBD := Lib.hid h.bd
  have HBS := Lib.hid hbs
  have HOW0 := Lib.hid ho
  have HV := Lib.hid hv
  have HKR := Lib.hid (And.intro hk hr)
  have HK0 := Lib.hid (And.intro hK (And.intro hkn ok))
  have HR0 := Lib.hid (And.intro hR okR)
  have hwl1 : (x.ws.length : Int) ≤ 1000 := by omega
  have HYM := Lib.hid (And.intro hym hy)
  have HI := Lib.hid hi
  clear hi h hy hwl ht ok hK hfew ho hv hk hr okR hR c0 c1 c3 c4 hne1 hne2 hym hbs hyl
  go_enter Tryz.func140, Tryz.ntmps140
  go_upto_region 0 with (fail)
  refine wp_region_held_drew (S := (fun X => Below w.heap.size w X)) (by kernel_rfl) ((Below.refl _ _).drew) (fun hHeld => ?_)
  refine tp 0 ?_ rfl (.inl ⟨by rfl, ?_⟩) ?_
  rotate_left
  · intro W hSw; go_simp; try with_reducible rfl
  refine tp 1 ?_ rfl (.inl ⟨by rfl, ?_⟩) ?_
  rotate_left
  · intro W hSw; go_simp; try with_reducible rfl
  refine tp 2 ?_ rfl (.inl ⟨by rfl, ?_⟩) ?_
  rotate_left
  · intro W hSw; go_simp; try with_reducible rfl
  refine tp 3 ?_ rfl (.inl ⟨by rfl, ?_⟩) ?_
  rotate_left
  · intro W hSw; have m := (HX.out W hSw).1; go_simp; try with_reducible rfl
  refine tp 4 ?_ rfl (.inl ⟨by rfl, ?_⟩) ?_
  rotate_left
  · intro W hSw; go_simp; try with_reducible rfl
  refine tp 5 ?_ rfl (.inl ⟨by rfl, ?_⟩) ?_
  rotate_left
  · intro W hSw; go_simp; try with_reducible rfl
  refine tp 6 ?_ rfl (.inl ⟨by rfl, ?_⟩) ?_
  rotate_left
  · intro W hSw; have m := (HX.out W hSw).2.1; go_simp; try with_reducible rfl
  refine tp 7 ?_ rfl (.inl ⟨by rfl, ?_⟩) ?_
  rotate_left
  · intro W hSw; go_simp; try with_reducible rfl
  refine tp 8 ?_ rfl (.inl ⟨by rfl, ?_⟩) ?_
  rotate_left
  · intro W hSw; have m := (HX.out W hSw).2.2.1; go_simp; try with_reducible rfl
  refine tp 9 ?_ rfl (.inl ⟨by rfl, ?_⟩) ?_
  rotate_left
  · intro W hSw; have m := (HX.out W hSw).2.2.2; go_simp; try with_reducible rfl
  refine tp 10 ?_ rfl (.inl ⟨by rfl, ?_⟩) ?_
  rotate_left
  · intro W hSw; go_simp; try with_reducible rfl
  refine tp 11 ?_ rfl (.inl ⟨by rfl, ?_⟩) ?_
  rotate_left
  · intro W hSw; go_simp; try with_reducible rfl
  refine tp 12 ?_ rfl (.inl ⟨by rfl, ?_⟩) ?_
  rotate_left
  · intro W hSw; go_simp; try with_reducible rfl
  refine tp 13 ?_ rfl (.inl ⟨by rfl, ?_⟩) ?_
  rotate_left
  · intro W hSw; go_simp; try with_reducible rfl
  refine tp 14 ?_ rfl (.inl ⟨by rfl, ?_⟩) ?_
  rotate_left
  · intro W hSw; go_simp; try with_reducible rfl
  refine wpAnyH_done (by kernel_rfl) ?_ _
  skip
  have HBK := Lib.hid (hHeld : Below w.heap.size w w.drew)
  clear hHeld
  go_upto_region 3 with (fail)
  refine wp_region_last (z := 10) (S := (fun X => Below w.heap.size w X)) (by kernel_rfl) (HBK.out.drew) (fun hHeld => ?_)
  refine wpAnyL_take (i := 0) (oi := { dst := some 30, op := Op.move (Operand.tmp 0), type := 117, pos := "trial.go:55", after := #[], guard := none }) (v := ?_) (by kernel_rfl) rfl (by kernel_rfl) rfl (by kernel_rfl) (by kernel_rfl) (by kernel_rfl) (fun _ _ _ h => h) (Or.inl ⟨by rfl, ?_⟩) (by assumption) ?_
  rotate_left
  · intro W hSw; go_simp; try with_reducible rfl
  try simp only [Act.put, List.setIfInBounds_toArray, List.set_cons_zero, List.set_cons_succ]
  refine wpAnyL_take (i := 1) (oi := { dst := some 31, op := Op.nilCheck (Operand.tmp 30), type := 0, pos := "trial.go:55", after := #[{ on := 0, ground := Ground.data }], guard := none }) (v := ?_) (by kernel_rfl) rfl (by kernel_rfl) rfl (by kernel_rfl) (by kernel_rfl) (by kernel_rfl) (fun _ _ _ h => h) (Or.inl ⟨by rfl, ?_⟩) (by assumption) ?_
  rotate_left
  · intro W hSw; go_simp; try with_reducible rfl
  try simp only [Act.put, List.setIfInBounds_toArray, List.set_cons_zero, List.set_cons_succ]
  refine wpAnyL_take (i := 2) (oi := { dst := some 32, op := Op.fieldAddr 123 (Operand.tmp 31) 1, type := 0, pos := "trial.go:55", after := #[{ on := 1, ground := Ground.data }], guard := none }) (v := ?_) (by kernel_rfl) rfl (by kernel_rfl) rfl (by kernel_rfl) (by kernel_rfl) (by kernel_rfl) (fun _ _ _ h => h) (Or.inl ⟨by rfl, ?_⟩) (by assumption) ?_
  rotate_left
  · intro W hSw; go_simp; try with_reducible rfl
  try simp only [Act.put, List.setIfInBounds_toArray, List.set_cons_zero, List.set_cons_succ]
  refine wpAnyL_take (i := 3) (oi := { dst := some 33, op := Op.load 120 (Operand.tmp 32), type := 120, pos := "trial.go:55", after := #[{ on := 2, ground := Ground.data }], guard := none }) (v := ?_) (by kernel_rfl) rfl (by kernel_rfl) rfl (by kernel_rfl) (by kernel_rfl) (by kernel_rfl) (fun _ _ _ h => h) (Or.inl ⟨by rfl, ?_⟩) (by assumption) ?_
  rotate_left
  · intro W hSw; have m := (HX.out W hSw).1; go_simp; try with_reducible rfl
  try simp only [Act.put, List.setIfInBounds_toArray, List.set_cons_zero, List.set_cons_succ]
  refine wpAnyL_take (i := 4) (oi := { dst := some 34, op := Op.move (Operand.tmp 1), type := 3, pos := "trial.go:55", after := #[], guard := none }) (v := ?_) (by kernel_rfl) rfl (by kernel_rfl) rfl (by kernel_rfl) (by kernel_rfl) (by kernel_rfl) (fun _ _ _ h => h) (Or.inl ⟨by rfl, ?_⟩) (by assumption) ?_
  rotate_left
  · intro W hSw; go_simp; try with_reducible rfl
  try simp only [Act.put, List.setIfInBounds_toArray, List.set_cons_zero, List.set_cons_succ]
  refine wpAnyL_take (i := 5) (oi := { dst := some 35, op := Op.indexAddr 120 (Operand.tmp 33) (Operand.tmp 34), type := 0, pos := "trial.go:55", after := #[{ on := 3, ground := Ground.data }, { on := 4, ground := Ground.data }], guard := none }) (v := ?_) (by kernel_rfl) rfl (by kernel_rfl) rfl (by kernel_rfl) (by kernel_rfl) (by kernel_rfl) (fun _ _ _ h => h) (Or.inl ⟨by rfl, ?_⟩) (by assumption) ?_
  rotate_left
  · intro W hSw; go_simp; try with_reducible rfl
  try simp only [Act.put, List.setIfInBounds_toArray, List.set_cons_zero, List.set_cons_succ]
  refine wpAnyL_take (i := 6) (oi := { dst := some 36, op := Op.load 173 (Operand.tmp 35), type := 173, pos := "trial.go:55", after := #[{ on := 5, ground := Ground.data }], guard := none }) (v := ?_) (by kernel_rfl) rfl (by kernel_rfl) rfl (by kernel_rfl) (by kernel_rfl) (by kernel_rfl) (fun _ _ _ h => h) (Or.inl ⟨by rfl, ?_⟩) (by assumption) ?_
  rotate_left
  · intro W hSw; have m := (HX.out W hSw).2.1; go_simp; try with_reducible rfl
  try simp only [Act.put, List.setIfInBounds_toArray, List.set_cons_zero, List.set_cons_succ]
  refine wpAnyL_take (i := 7) (oi := { dst := some 37, op := Op.move (Operand.tmp 2), type := 42, pos := "trial.go:55", after := #[], guard := none }) (v := ?_) (by kernel_rfl) rfl (by kernel_rfl) rfl (by kernel_rfl) (by kernel_rfl) (by kernel_rfl) (fun _ _ _ h => h) (Or.inl ⟨by rfl, ?_⟩) (by assumption) ?_
  rotate_left
  · intro W hSw; go_simp; try with_reducible rfl
  try simp only [Act.put, List.setIfInBounds_toArray, List.set_cons_zero, List.set_cons_succ]
  refine wpAnyL_take (i := 8) (oi := { dst := some 38, op := Op.convert 42 9 (Operand.tmp 37), type := 9, pos := "trial.go:55", after := #[{ on := 7, ground := Ground.data }], guard := none }) (v := ?_) (by kernel_rfl) rfl (by kernel_rfl) rfl (by kernel_rfl) (by kernel_rfl) (by kernel_rfl) (fun _ _ _ h => h) (Or.inl ⟨by rfl, ?_⟩) (by assumption) ?_
  rotate_left
  · intro W hSw; have m := (HX.out W hSw).2.2.1; go_simp; try with_reducible rfl
  try simp only [Act.put, List.setIfInBounds_toArray, List.set_cons_zero, List.set_cons_succ]
  refine wpAnyL_take (i := 9) (oi := { dst := some 39, op := Op.move (Operand.tmp 8), type := 3, pos := "trial.go:55", after := #[], guard := none }) (v := ?_) (by kernel_rfl) rfl (by kernel_rfl) rfl (by kernel_rfl) (by kernel_rfl) (by kernel_rfl) (fun _ _ _ h => h) (Or.inl ⟨by rfl, ?_⟩) (by assumption) ?_
  rotate_left
  · intro W hSw; go_simp; try with_reducible rfl
  try simp only [Act.put, List.setIfInBounds_toArray, List.set_cons_zero, List.set_cons_succ]
  refine wpAnyL_ready (rs := [10]) (by kernel_rfl) (by simp) ?_
  refine AllL.last (o := { dst := none, op := Op.mapUpdate 173 (Operand.tmp 36) (Operand.tmp 38) (Operand.tmp 39), type := 0, pos := "trial.go:55", after := #[{ on := 6, ground := Ground.data }, { on := 8, ground := Ground.data }, { on := 9, ground := Ground.data }, { on := 0, ground := Ground.phase }, { on := 1, ground := Ground.phase }, { on := 2, ground := Ground.phase }, { on := 3, ground := Ground.phase }, { on := 4, ground := Ground.phase }, { on := 5, ground := Ground.phase }, { on := 6, ground := Ground.phase }, { on := 7, ground := Ground.phase }, { on := 8, ground := Ground.phase }, { on := 9, ground := Ground.phase }], guard := none }) rfl (fun K hK => ?_)
  obtain ⟨w5, hrun, hmp5, hg5⟩ := HM3.out _ hHeld
  simp only [iV] at hrun
  go_simp
  refine hK.out _ _ ?_
  clear hK K
  try simp only [Act.put, List.setIfInBounds_toArray, List.set_cons_zero, List.set_cons_succ]
  refine wpAnyL_done (by kernel_rfl) ?_ _
  skip
  have o5 : Off (fun k => k = y.1) w w5 := (Off.of hHeld).trans (Off.of_map hg5 rfl)
  have HO5 := Lib.hid o5
  have HM5 := Lib.hid hmp5
  have HS5 := Lib.hid o5.size
  have HOW := Lib.hid (own_offb HOW0.out o5 (fun g hg e => (HNE.out.2 g hg).1 e))
  have HBX := Lib.hid (fun X (o : Off (fun k => Value.ownBlock (.slice av x.ws.length cv) = some k) w5 X) => o.box (o5.box HH.out.box (fun e => HNE.out.1 e.symm)) (fun e => (HNE.out.2 _ e).2 rfl))
  have HC2 := Lib.hid (fun X (o : Off (fun k => Value.ownBlock (.slice av x.ws.length cv) = some k) w5 X) => (by rw [(HBX.out X o).cell]; show some x.wv = _; rw [HV.out] : X.cell? ⟨x.px, 2, none⟩ = some (.slice av x.ws.length cv)))
  have HIN := Lib.hid (fun X (o : Off (fun k => Value.ownBlock (.slice av x.ws.length cv) = some k) w5 X) => (o5.mono (fun k hk => by rw [hk]; exact HH.out.hm y HYM.out.1) : Off S w w5).trans (o.mono fun k hk => HH.out.hw k (by rw [HV.out]; exact hk)))
  have HKK := Lib.hid (And.intro HK0.out.1 (And.intro HK0.out.2.1 (fun X o => HKR.out.1 X (HIN.out X o))))
  clear hHeld o5 hmp5 hg5 hrun
  go_upto_region 4 with (fail)
  refine wp_region_last (z := 13) (S := (fun X => Off (fun k => Value.ownBlock (.slice av x.ws.length cv) = some k) w5 X)) (by kernel_rfl) ((Off.refl _ _).drew) (fun hHeld => ?_)
  refine wpAnyL_take (i := 0) (oi := { dst := some 40, op := Op.move (Operand.tmp 0), type := 117, pos := "trial.go:56", after := #[], guard := none }) (v := ?_) (by kernel_rfl) rfl (by kernel_rfl) rfl (by kernel_rfl) (by kernel_rfl) (by kernel_rfl) (fun _ _ _ h => h) (Or.inl ⟨by rfl, ?_⟩) (by assumption) ?_
  rotate_left
  · intro W hSw; go_simp; try with_reducible rfl
  try simp only [Act.put, List.setIfInBounds_toArray, List.set_cons_zero, List.set_cons_succ]
  refine wpAnyL_take (i := 1) (oi := { dst := some 41, op := Op.move (Operand.tmp 0), type := 117, pos := "trial.go:56", after := #[], guard := none }) (v := ?_) (by kernel_rfl) rfl (by kernel_rfl) rfl (by kernel_rfl) (by kernel_rfl) (by kernel_rfl) (fun _ _ _ h => h) (Or.inl ⟨by rfl, ?_⟩) (by assumption) ?_
  rotate_left
  · intro W hSw; go_simp; try with_reducible rfl
  try simp only [Act.put, List.setIfInBounds_toArray, List.set_cons_zero, List.set_cons_succ]
  refine wpAnyL_take (i := 2) (oi := { dst := some 42, op := Op.nilCheck (Operand.tmp 41), type := 0, pos := "trial.go:56", after := #[{ on := 1, ground := Ground.data }], guard := none }) (v := ?_) (by kernel_rfl) rfl (by kernel_rfl) rfl (by kernel_rfl) (by kernel_rfl) (by kernel_rfl) (fun _ _ _ h => h) (Or.inl ⟨by rfl, ?_⟩) (by assumption) ?_
  rotate_left
  · intro W hSw; go_simp; try with_reducible rfl
  try simp only [Act.put, List.setIfInBounds_toArray, List.set_cons_zero, List.set_cons_succ]
  refine wpAnyL_take (i := 3) (oi := { dst := some 43, op := Op.fieldAddr 123 (Operand.tmp 42) 2, type := 0, pos := "trial.go:56", after := #[{ on := 2, ground := Ground.data }], guard := none }) (v := ?_) (by kernel_rfl) rfl (by kernel_rfl) rfl (by kernel_rfl) (by kernel_rfl) (by kernel_rfl) (fun _ _ _ h => h) (Or.inl ⟨by rfl, ?_⟩) (by assumption) ?_
  rotate_left
  · intro W hSw; go_simp; try with_reducible rfl
  try simp only [Act.put, List.setIfInBounds_toArray, List.set_cons_zero, List.set_cons_succ]
  refine wpAnyL_take (i := 4) (oi := { dst := some 44, op := Op.load 41 (Operand.tmp 43), type := 41, pos := "trial.go:56", after := #[{ on := 3, ground := Ground.data }], guard := none }) (v := ?_) (by kernel_rfl) rfl (by kernel_rfl) rfl (by kernel_rfl) (by kernel_rfl) (by kernel_rfl) (fun _ _ _ h => h) (Or.inl ⟨by rfl, ?_⟩) (by assumption) ?_
  rotate_left
  · intro W hSw; have m := HC2.out W hSw; go_simp; try with_reducible rfl
  try simp only [Act.put, List.setIfInBounds_toArray, List.set_cons_zero, List.set_cons_succ]
  refine wpAnyL_take (i := 5) (oi := { dst := some 45, op := Op.move (Operand.tmp 1), type := 3, pos := "trial.go:56", after := #[], guard := none }) (v := ?_) (by kernel_rfl) rfl (by kernel_rfl) rfl (by kernel_rfl) (by kernel_rfl) (by kernel_rfl) (fun _ _ _ h => h) (Or.inl ⟨by rfl, ?_⟩) (by assumption) ?_
  rotate_left
  · intro W hSw; go_simp; try with_reducible rfl
  try simp only [Act.put, List.setIfInBounds_toArray, List.set_cons_zero, List.set_cons_succ]
  refine wpAnyL_take (i := 6) (oi := { dst := some 46, op := Op.move (Operand.tmp 2), type := 42, pos := "trial.go:56", after := #[], guard := none }) (v := ?_) (by kernel_rfl) rfl (by kernel_rfl) rfl (by kernel_rfl) (by kernel_rfl) (by kernel_rfl) (fun _ _ _ h => h) (Or.inl ⟨by rfl, ?_⟩) (by assumption) ?_
  rotate_left
  · intro W hSw; go_simp; try with_reducible rfl
  try simp only [Act.put, List.setIfInBounds_toArray, List.set_cons_zero, List.set_cons_succ]
  refine wpAnyL_ready (rs := [7]) (by kernel_rfl) (by simp) ?_
  refine AllL.cons (o := { dst := some 47, op := Op.call { callee := Callee.value (Operand.func 92), args := #[Operand.tmp 46], argTypes := #[42] }, type := 42, pos := "trial.go:56", after := #[{ on := 6, ground := Ground.data }], guard := none }) rfl (fun K hK => ?_) AllL.nil
  go_simp
  refine (clone_own ka Ky kn kc HKK.out.1 HKK.out.2.1 _ (HKK.out.2.2 _ hHeld)).mono ?_; rintro r w6 ⟨⟨a6, c6, rfl, ho6⟩, hb6⟩
  go_wp2_with fail
  have HO6 := Lib.hid (own_stay ho6 HKK.out.1 (fun k hk => Nat.lt_of_lt_of_le (HBD.out k hk) (Nat.le_trans HS5.out hHeld.size)))
  have HBC := Lib.hid (((Below.refl w5.heap.size w5).drew).trans hb6)
  have HB6 := Lib.hid (hHeld.then hb6)
  refine hK.out _ _ HB6.out (fun hHeldn => ?_)
  clear hK K hHeld ho6 hb6; have hHeld := hHeldn; clear hHeldn
  try simp only [Act.put, List.setIfInBounds_toArray, List.set_cons_zero, List.set_cons_succ]
  refine wpAnyL_take (i := 8) (oi := { dst := some 48, op := Op.build 84 #[(0, Operand.tmp 45), (1, Operand.tmp 47)], type := 84, pos := "trial.go:56", after := #[{ on := 5, ground := Ground.data }, { on := 7, ground := Ground.data }], guard := none }) (v := ?_) (by kernel_rfl) rfl (by kernel_rfl) rfl (by kernel_rfl) (by kernel_rfl) (by kernel_rfl) (fun _ _ _ h => h) (Or.inl ⟨by rfl, ?_⟩) (by assumption) ?_
  rotate_left
  · intro W hSw; go_simp; try with_reducible rfl
  try simp only [Act.put, List.setIfInBounds_toArray, List.set_cons_zero, List.set_cons_succ]
  refine wpAnyL_ready (rs := [9]) (by kernel_rfl) (by simp) ?_
  refine AllL.cons (o := { dst := some 49, op := Op.buildSlice 41 1 #[(0, Operand.tmp 48)], type := 41, pos := "trial.go:56", after := #[{ on := 8, ground := Ground.data }], guard := none }) rfl (fun K hK => ?_) AllL.nil
  go_simp
  have HB7 := Lib.hid (HB6.out.then (bl1 w6 (.cells #[.int .i64 (t : Int), .slice a6 kn c6, .slice none 0 0] 84)))
  have HBC7 := Lib.hid (step_below HBC.out (bl1 w6 (.cells #[.int .i64 (t : Int), .slice a6 kn c6, .slice none 0 0] 84)))
  refine hK.out _ _ HB7.out (fun hHeldn => ?_)
  clear hK K hHeld; have hHeld := hHeldn; clear hHeldn
  try simp only [Act.put, List.setIfInBounds_toArray, List.set_cons_zero, List.set_cons_succ]
  refine wpAnyL_ready (rs := [10]) (by kernel_rfl) (by simp) ?_
  refine AllL.cons (o := { dst := some 50, op := Op.call { callee := Callee.builtin Builtin.append, args := #[Operand.tmp 44, Operand.tmp 49], argTypes := #[41, 41] }, type := 41, pos := "trial.go:56", after := #[{ on := 4, ground := Ground.data }, { on := 9, ground := Ground.data }, { on := 7, ground := Ground.chain }], guard := none }) rfl (fun K hK => ?_) AllL.nil
  have hown := own_kept HOW.out HBC7.out
  refine step_append_cells ae_write rfl _ _ rfl base (.slice av x.ws.length cv) x.ws.length (cellsOf wcl x.ws) rfl hown ⟨w6.heap.size, 0, none⟩ 1 1 [.int .i64 (t : Int), .slice a6 kn c6, .slice none 0 0] rfl rfl (cells_new w6 _ _ _ rfl) (fun u hu => by simp at hu; rcases hu with rfl | rfl | rfl <;> rfl) (by omega) (Nat.le_trans HBS.out (Nat.le_trans HS5.out hHeld.size)) ?_
  intro v9 w9 hown9 hgrow9 hat9
  obtain ⟨a9, c9, hv9⟩ := own_form22 hown9
  subst hv9
  have HAT := Lib.hid hat9
  clear hat9
  have HO9 := Lib.hid hown9
  have HG9 := Lib.hid hgrow9
  have HB9 := Lib.hid (hHeld.trans (Off.of_row hgrow9))
  refine hK.out _ _ HB9.out (fun hHeldn => ?_)
  clear hK K hHeld hown hown9 hgrow9; have hHeld := hHeldn; clear hHeldn
  try simp only [Act.put, List.setIfInBounds_toArray, List.set_cons_zero, List.set_cons_succ]
  refine wpAnyL_free (i := 11) (oi := { dst := some 51, op := Op.nilCheck (Operand.tmp 40), type := 0, pos := "trial.go:56", after := #[{ on := 0, ground := Ground.data }, { on := 0, ground := Ground.phase }, { on := 1, ground := Ground.phase }, { on := 2, ground := Ground.phase }, { on := 3, ground := Ground.phase }, { on := 4, ground := Ground.phase }, { on := 5, ground := Ground.phase }, { on := 6, ground := Ground.phase }, { on := 7, ground := Ground.phase }, { on := 8, ground := Ground.phase }, { on := 9, ground := Ground.phase }, { on := 10, ground := Ground.phase }], guard := none }) (v := ?_) (by kernel_rfl) rfl rfl (by kernel_rfl) (by kernel_rfl) (by kernel_rfl) (fun _ _ _ h => h) (Or.inl ⟨by rfl, ?_⟩) (by assumption) ?_
  rotate_left
  · intro W hSw; go_simp; try with_reducible rfl
  try simp only [Act.put, List.setIfInBounds_toArray, List.set_cons_zero, List.set_cons_succ]
  refine wpAnyL_take (i := 12) (oi := { dst := some 52, op := Op.fieldAddr 123 (Operand.tmp 51) 2, type := 0, pos := "trial.go:56", after := #[{ on := 11, ground := Ground.data }, { on := 0, ground := Ground.phase }, { on := 1, ground := Ground.phase }, { on := 2, ground := Ground.phase }, { on := 3, ground := Ground.phase }, { on := 4, ground := Ground.phase }, { on := 5, ground := Ground.phase }, { on := 6, ground := Ground.phase }, { on := 7, ground := Ground.phase }, { on := 8, ground := Ground.phase }, { on := 9, ground := Ground.phase }, { on := 10, ground := Ground.phase }], guard := none }) (v := ?_) (by kernel_rfl) rfl (by kernel_rfl) rfl (by kernel_rfl) (by kernel_rfl) (by kernel_rfl) (fun _ _ _ h => h) (Or.inl ⟨by rfl, ?_⟩) (by assumption) ?_
  rotate_left
  · intro W hSw; go_simp; try with_reducible rfl
  try simp only [Act.put, List.setIfInBounds_toArray, List.set_cons_zero, List.set_cons_succ]
  refine wpAnyL_ready (rs := [13]) (by kernel_rfl) (by simp) ?_
  refine AllL.last (o := { dst := none, op := Op.store 41 (Operand.tmp 52) (Operand.tmp 50), type := 0, pos := "trial.go:56", after := #[{ on := 12, ground := Ground.data }, { on := 10, ground := Ground.data }, { on := 10, ground := Ground.chain }, { on := 0, ground := Ground.phase }, { on := 1, ground := Ground.phase }, { on := 2, ground := Ground.phase }, { on := 3, ground := Ground.phase }, { on := 4, ground := Ground.phase }, { on := 5, ground := Ground.phase }, { on := 6, ground := Ground.phase }, { on := 7, ground := Ground.phase }, { on := 8, ground := Ground.phase }, { on := 9, ground := Ground.phase }, { on := 10, ground := Ground.phase }], guard := none }) rfl (fun K hK => ?_)
  have x4 := HC2.out _ HB9.out
  have f4 := (HBX.out _ HB9.out).frozen 2
  go_simp
  refine hK.out _ _ ?_
  clear hK K x4 f4
  try simp only [Act.put, List.setIfInBounds_toArray, List.set_cons_zero, List.set_cons_succ]
  refine wpAnyL_done (by kernel_rfl) ?_ _
  skip
  have HC9 := Lib.hid (own_cell22 (sz := 3) wcl_len (by omega) (xs := x.ws ++ [⟨t, a6, c6, Ky, ⟨none, 0, []⟩⟩]) (by rw [cellsOf_append]; simpa [cellsOf, wcl, RV.v, HK0.out.1] using HO9.out) (by simp) x.ws.length ⟨t, a6, c6, Ky, ⟨none, 0, []⟩⟩ (by simp))
  have hc9 := HC9.out
  obtain ⟨g9, hg9, hb9, _⟩ := hc9
  subst hg9
  have HBX9 := Lib.hid (HBX.out _ HB9.out)
  have hgp : g9 ≠ x.px := by
    obtain ⟨_, _, cur, hb⟩ := own_blk HO9.out rfl
    exact box_ne hb HBX9.out (by decide)
  have HGP := Lib.hid hgp
  have HB9g := Lib.hid hb9
  obtain ⟨w10, hw10⟩ : ∃ W, W = w9.setCell ⟨x.px, 2, none⟩ (.slice (some ⟨g9, 0, none⟩) (x.ws.length + 1) c9) := ⟨_, rfl⟩
  rw [← hw10]
  have HOX := Lib.hid (by rw [hw10]; exact ownsRow_setCell_other HO9.out (by simp [Value.ownBlock]; exact HGP.out) _ : w10.ownsRow base 84 3 (.slice (some ⟨g9, 0, none⟩) (x.ws.length + 1) c9) (x.ws.length + 1) (cellsOf wcl x.ws ++ [.int .i64 (t : Int), .slice a6 kn c6, .slice none 0 0]))
  have HBX10 := Lib.hid (by rw [hw10]; exact heap_setCell_same w9 x.px 2 (x.cs m) 123 _ HBX9.out : BoxC w10 x.px ((x.cs m).setIfInBounds 2 (.slice (some ⟨g9, 0, none⟩) (x.ws.length + 1) c9)) 123)
  have HW10 := Lib.hid hw10
  have HOF := Lib.hid (by rw [hw10]; exact Off.set2 (S := fun k => k = y.1 ∨ k = x.px ∨ Value.ownBlock (.slice av x.ws.length cv) = some k) ((HO5.out.mono (fun k hk => Or.inl hk)).trans (HB9.out.mono fun k hk => Or.inr (Or.inr hk))) ⟨x.px, 2, none⟩ (Or.inl (Or.inr (Or.inl rfl))) _ : Off (fun k => k = y.1 ∨ k = x.px ∨ Value.ownBlock (.slice av x.ws.length cv) = some k) w w10)
  have HBD10 := Lib.hid (fun k (hk : S k ∨ k = g9) => (by
    rcases hk with hk | rfl
    · exact Nat.lt_of_lt_of_le (HBD.out k hk) HOF.out.size
    · exact (own_blk HOX.out rfl).2.1 : k < w10.heap.size))
  have HW5 := Lib.hid (fun X (b : Below w10.heap.size w10 X) => (by rw [(HBX10.out.below b).cell]; rfl : X.cell? ⟨x.px, 2, none⟩ = some (.slice (some ⟨g9, 0, none⟩) (x.ws.length + 1) c9)))
  have HZ5 := Lib.hid (fun X (b : Below w10.heap.size w10 X) => (by
    have ow := own_kept HOX.out b
    refine ⟨?_, ow.frozenAt _⟩
    rw [ow.cellAt (x.ws.length * 3 + 2) (by omega), List.getElem?_append_right (by rw [cellsOf_len wcl_len]; omega), cellsOf_len wcl_len, show x.ws.length * 3 + 2 - x.ws.length * 3 = 2 by omega]
    rfl : X.cell? ⟨g9, x.ws.length * 3 + 2, none⟩ = some (.slice none 0 0) ∧ X.frozen? ⟨g9, x.ws.length * 3 + 2, none⟩ = false))
  have HTS := Lib.hid (fun k (hk : k = y.1 ∨ k = x.px ∨ Value.ownBlock (.slice av x.ws.length cv) = some k) => (by
    rcases hk with rfl | rfl | hk
    · exact ⟨HH.out.hm y HYM.out.1, HH.out.low y HYM.out.1⟩
    · exact ⟨HH.out.hp, HH.out.lo⟩
    · exact ⟨HH.out.hw k (by rw [HV.out]; exact hk), (own_blk HOW0.out hk).1⟩ : S k ∧ base ≤ k))
  have HRR := Lib.hid (And.intro HR0.out.1 (And.intro (show rn ≤ 9000 by
    by_cases e : R = []
    · rw [← HR0.out.1, e]; simp
    · have := (HR0.out.2 e).2.1; have := HR0.out.1; rw [List.length_map] at *; omega) (And.intro (show ∀ q ∈ R, q.bs.length ≤ 9000 from fun q hq => by
    have := ((HR0.out.2 (fun e => by rw [e] at hq; simp at hq)).2.2 q.bs (List.mem_map.2 ⟨q, hq, rfl⟩)).2; omega) (fun X (b : Below w10.heap.size w10 X) => HKR.out.2 X ((HOF.out.mono fun k hk => (HTS.out k hk).1).then b)))))
  have hi2 : (x.ws.length : Int) < (x.ws.length : Int) + 1 := by omega
  have hi3 : ¬ (x.ws.length : Int) < 0 := by omega
  have hi4 : ((x.ws.length + 1 : Nat) : Int) ≤ 1000000 := by omega
  clear hHeld hb9 hgp hw10
  go_upto_region 5 with (fail)
  refine wp_region_last (z := 9) (S := (fun X => Below w10.heap.size w10 X)) (by kernel_rfl) ((Below.refl _ _).drew) (fun hHeld => ?_)
  refine wpAnyL_take (i := 0) (oi := { dst := some 53, op := Op.move (Operand.tmp 0), type := 117, pos := "trial.go:58", after := #[], guard := none }) (v := ?_) (by kernel_rfl) rfl (by kernel_rfl) rfl (by kernel_rfl) (by kernel_rfl) (by kernel_rfl) (fun _ _ _ h => h) (Or.inl ⟨by rfl, ?_⟩) (by assumption) ?_
  rotate_left
  · intro W hSw; go_simp; try with_reducible rfl
  try simp only [Act.put, List.setIfInBounds_toArray, List.set_cons_zero, List.set_cons_succ]
  refine wpAnyL_take (i := 1) (oi := { dst := some 54, op := Op.nilCheck (Operand.tmp 53), type := 0, pos := "trial.go:58", after := #[{ on := 0, ground := Ground.data }], guard := none }) (v := ?_) (by kernel_rfl) rfl (by kernel_rfl) rfl (by kernel_rfl) (by kernel_rfl) (by kernel_rfl) (fun _ _ _ h => h) (Or.inl ⟨by rfl, ?_⟩) (by assumption) ?_
  rotate_left
  · intro W hSw; go_simp; try with_reducible rfl
  try simp only [Act.put, List.setIfInBounds_toArray, List.set_cons_zero, List.set_cons_succ]
  refine wpAnyL_take (i := 2) (oi := { dst := some 55, op := Op.fieldAddr 123 (Operand.tmp 54) 2, type := 0, pos := "trial.go:58", after := #[{ on := 1, ground := Ground.data }], guard := none }) (v := ?_) (by kernel_rfl) rfl (by kernel_rfl) rfl (by kernel_rfl) (by kernel_rfl) (by kernel_rfl) (fun _ _ _ h => h) (Or.inl ⟨by rfl, ?_⟩) (by assumption) ?_
  rotate_left
  · intro W hSw; go_simp; try with_reducible rfl
  try simp only [Act.put, List.setIfInBounds_toArray, List.set_cons_zero, List.set_cons_succ]
  refine wpAnyL_take (i := 3) (oi := { dst := some 56, op := Op.load 41 (Operand.tmp 55), type := 41, pos := "trial.go:58", after := #[{ on := 2, ground := Ground.data }], guard := none }) (v := ?_) (by kernel_rfl) rfl (by kernel_rfl) rfl (by kernel_rfl) (by kernel_rfl) (by kernel_rfl) (fun _ _ _ h => h) (Or.inl ⟨by rfl, ?_⟩) (by assumption) ?_
  rotate_left
  · intro W hSw; have m := HW5.out W hSw; go_simp; try with_reducible rfl
  try simp only [Act.put, List.setIfInBounds_toArray, List.set_cons_zero, List.set_cons_succ]
  refine wpAnyL_take (i := 4) (oi := { dst := some 57, op := Op.move (Operand.tmp 8), type := 3, pos := "trial.go:58", after := #[], guard := none }) (v := ?_) (by kernel_rfl) rfl (by kernel_rfl) rfl (by kernel_rfl) (by kernel_rfl) (by kernel_rfl) (fun _ _ _ h => h) (Or.inl ⟨by rfl, ?_⟩) (by assumption) ?_
  rotate_left
  · intro W hSw; go_simp; try with_reducible rfl
  try simp only [Act.put, List.setIfInBounds_toArray, List.set_cons_zero, List.set_cons_succ]
  refine wpAnyL_take (i := 5) (oi := { dst := some 58, op := Op.move (Operand.tmp 3), type := 50, pos := "trial.go:58", after := #[], guard := none }) (v := ?_) (by kernel_rfl) rfl (by kernel_rfl) rfl (by kernel_rfl) (by kernel_rfl) (by kernel_rfl) (fun _ _ _ h => h) (Or.inl ⟨by rfl, ?_⟩) (by assumption) ?_
  rotate_left
  · intro W hSw; go_simp; try with_reducible rfl
  try simp only [Act.put, List.setIfInBounds_toArray, List.set_cons_zero, List.set_cons_succ]
  refine wpAnyL_ready (rs := [6]) (by kernel_rfl) (by simp) ?_
  refine AllL.cons (o := { dst := some 59, op := Op.call { callee := Callee.value (Operand.func 55), args := #[Operand.tmp 58], argTypes := #[50] }, type := 50, pos := "trial.go:58", after := #[{ on := 5, ground := Ground.data }], guard := none }) rfl (fun K hK => ?_) AllL.nil
  go_simp
  refine (rowcopy_law ra R rn rc HRR.out.1 HRR.out.2.1 HRR.out.2.2.1 _ (HRR.out.2.2.2 _ (hHeld))).mono ?_; rintro r w8 ⟨⟨v8, rfl, hc8⟩, hb8⟩
  obtain ⟨a8, c8, R8, hv8, hl8, hm8, hst8⟩ := cpR_stay (S := (fun k => S k ∨ k = g9)) hc8 HRR.out.1 (fun k hk => Nat.lt_of_lt_of_le (HBD10.out k hk) hHeld.size)
  subst hv8
  go_wp2_with fail
  have HC8 := Lib.hid (And.intro hl8 (And.intro hm8 hst8))
  have HB8 := Lib.hid (step_below hHeld hb8)
  refine hK.out _ _ HB8.out (fun hHeldn => ?_)
  clear hK K hHeld hc8 hb8 hl8 hm8 hst8; have hHeld := hHeldn; clear hHeldn
  try simp only [Act.put, List.setIfInBounds_toArray, List.set_cons_zero, List.set_cons_succ]
  refine wpAnyL_free (i := 7) (oi := { dst := some 60, op := Op.indexAddr 41 (Operand.tmp 56) (Operand.tmp 57), type := 0, pos := "trial.go:58", after := #[{ on := 3, ground := Ground.data }, { on := 4, ground := Ground.data }, { on := 0, ground := Ground.phase }, { on := 1, ground := Ground.phase }, { on := 2, ground := Ground.phase }, { on := 3, ground := Ground.phase }, { on := 4, ground := Ground.phase }, { on := 5, ground := Ground.phase }, { on := 6, ground := Ground.phase }], guard := none }) (v := ?_) (by kernel_rfl) rfl rfl (by kernel_rfl) (by kernel_rfl) (by kernel_rfl) (fun _ _ _ h => h) (Or.inl ⟨by rfl, ?_⟩) (by assumption) ?_
  rotate_left
  · intro W hSw; go_simp; try with_reducible rfl
  try simp only [Act.put, List.setIfInBounds_toArray, List.set_cons_zero, List.set_cons_succ]
  refine wpAnyL_take (i := 8) (oi := { dst := some 61, op := Op.fieldAddr 84 (Operand.tmp 60) 2, type := 0, pos := "trial.go:58", after := #[{ on := 7, ground := Ground.data }, { on := 0, ground := Ground.phase }, { on := 1, ground := Ground.phase }, { on := 2, ground := Ground.phase }, { on := 3, ground := Ground.phase }, { on := 4, ground := Ground.phase }, { on := 5, ground := Ground.phase }, { on := 6, ground := Ground.phase }], guard := none }) (v := ?_) (by kernel_rfl) rfl (by kernel_rfl) rfl (by kernel_rfl) (by kernel_rfl) (by kernel_rfl) (fun _ _ _ h => h) (Or.inl ⟨by rfl, ?_⟩) (by assumption) ?_
  rotate_left
  · intro W hSw; go_simp; try with_reducible rfl
  try simp only [Act.put, List.setIfInBounds_toArray, List.set_cons_zero, List.set_cons_succ]
  refine wpAnyL_ready (rs := [9]) (by kernel_rfl) (by simp) ?_
  refine AllL.last (o := { dst := none, op := Op.store 50 (Operand.tmp 61) (Operand.tmp 59), type := 0, pos := "trial.go:58", after := #[{ on := 8, ground := Ground.data }, { on := 6, ground := Ground.data }, { on := 6, ground := Ground.chain }, { on := 0, ground := Ground.phase }, { on := 1, ground := Ground.phase }, { on := 2, ground := Ground.phase }, { on := 3, ground := Ground.phase }, { on := 4, ground := Ground.phase }, { on := 5, ground := Ground.phase }, { on := 6, ground := Ground.phase }], guard := none }) rfl (fun K hK => ?_)
  have hz := HZ5.out _ hHeld
  obtain ⟨x4, f4⟩ := hz
  go_simp
  refine hK.out _ _ ?_
  clear hK K x4 f4
  try simp only [Act.put, List.setIfInBounds_toArray, List.set_cons_zero, List.set_cons_succ]
  refine wpAnyL_done (by kernel_rfl) ?_ _
  skip
  refine bodyPost_end (v := .tuple #[]) (by simp [results, Tryz.results140, go_sem]) rfl ?_
  clear hHeld
  have h := HH.out
  obtain ⟨hl8, hm8, hst8⟩ := HC8.out
  have hat := HAT.out
  simp only [Value.ownBlock] at hat
  have hg9t : Value.ownBlock (.slice av x.ws.length cv) = some g9 ∨ (w.heap.size ≤ g9 ∧ w6.heap.size + 1 = g9) := by
    rcases hat with e | e
    · exact .inl e.symm
    · have h7 := HB7.out.size
      have h5 := HS5.out
      rw [World.size_alloc] at e h7
      cases e
      exact .inr ⟨by omega, rfl⟩
  have hg9s : S g9 ∨ w.heap.size ≤ g9 := hg9t.imp (fun e => h.hw _ (by rw [HV.out]; exact e)) And.left
  have oFin : Off (fun k => k = y.1 ∨ k = x.px ∨ Value.ownBlock (.slice av x.ws.length cv) = some k) w (w8.setCell ⟨g9, x.ws.length * 3 + 2, none⟩ (.slice a8 rn c8)) :=
    (HOF.out.then HB8.out).set2 _ (hg9t.imp (fun e => .inr (.inr e)) And.left) _
  have hS1 : ∀ k, (fun k => S k ∨ k = g9) k → S k ∨ w.heap.size ≤ k := fun k hk => by
    rcases hk with hk | rfl
    · exact .inl hk
    · exact hg9s
  have oo : Off (Mut x) w (w8.setCell ⟨g9, x.ws.length * 3 + 2, none⟩ (.slice a8 rn c8)) := oFin.mono fun k hk => by
    rcases hk with rfl | rfl | hk
    · exact .inr (.inl ⟨y, HYM.out.1, rfl⟩)
    · exact .inl rfl
    · exact .inr (.inr (by rw [HV.out]; exact hk))
  have ow8 := (own_kept HOX.out HB8.out).stored (x.ws.length * 3 + 2) (.slice a8 rn c8)
  have hym := HYM.out.1
  have hyt := HYM.out.2
  have hoz : Off (fun k => k = g9) w8 (w8.setCell ⟨g9, x.ws.length * 3 + 2, none⟩ (.slice a8 rn c8)) := Off.set (S := fun k => k = g9) (Off.refl _ w8) ⟨g9, x.ws.length * 3 + 2, none⟩ rfl _
  have hb10 : Off (fun k => k = x.px ∨ Value.ownBlock (.slice av x.ws.length cv) = some k ∨ k = g9) w5 (w8.setCell ⟨g9, x.ws.length * 3 + 2, none⟩ (.slice a8 rn c8)) := by
    refine Off.trans (W' := w10) ?_ (Off.trans (Off.of HB8.out) (hoz.mono fun k hk => .inr (.inr hk)))
    rw [HW10.out]
    exact (HB9.out.mono fun k hk => .inr (.inl hk)).set _ (.inl rfl) _
  refine ⟨rfl, fun k => S k ∨ k = g9, { x with wm := x.wm.set t (y.1, setM y.2 Ky (some x.ws.length)), wv := .slice (some ⟨g9, 0, none⟩) (x.ws.length + 1) c9, ws := x.ws ++ [⟨t, a6, c6, Ky, ⟨a8, c8, R8⟩⟩] }, ⟨?_, fun k hk => .inl hk, hS1, oo, ?_, rfl, rfl, rfl, rfl, rfl⟩, ?_⟩
  · refine h.next oFin HTS.out { x with wm := x.wm.set t (y.1, setM y.2 Ky (some x.ws.length)), wv := .slice (some ⟨g9, 0, none⟩) (x.ws.length + 1) c9, ws := x.ws ++ [⟨t, a6, c6, Ky, ⟨a8, c8, R8⟩⟩] } rfl rfl rfl rfl ?_ ?_ ?_ ?_ ?_ _ (fun k hk => .inl hk) hS1 ?_ ?_ ?_ ?_ ?_ ?_ ?_ ?_ ?_ ?_
    · rw [map_set_fst hyt]
    · have b := hoz.box (HBX10.out.below HB8.out) (fun e => HGP.out e.symm)
      have e : ((x.cs m).setIfInBounds 2 (.slice (some ⟨g9, 0, none⟩) (x.ws.length + 1) c9)) = #[.pointer (some ⟨m.p, 0, none⟩), .slice (some ⟨x.bw, 0, none⟩) x.wm.length x.wc, .slice (some ⟨g9, 0, none⟩) (x.ws.length + 1) c9, x.rv, .func (.func 107) #[] #[.pointer (some ⟨x.bx, 0, none⟩), .pointer (some ⟨x.bm, 0, none⟩)]] := rfl
      rw [e] at b
      unfold Tl.cs
      rw [List.length_set]
      exact b
    · intro z hz
      have hyg : y.1 ≠ g9 := fun e => by
        rcases hg9t with e2 | e2
        · exact (HNE.out.2 _ e2).1 e.symm
        · have := (h.wmaps y hym).lt; omega
      obtain ⟨k, hk⟩ := List.mem_iff_getElem?.1 hz
      by_cases e : t = k
      · subst e
        rw [List.getElem?_set_self (List.getElem?_eq_some_iff.1 hyt).1] at hk
        cases hk
        refine HM5.out.off hb10 (fun e2 => ?_)
        rcases e2 with e2 | e2 | e2
        · exact HNE.out.1 e2
        · exact (HNE.out.2 _ e2).1 rfl
        · exact hyg e2
      · rw [List.getElem?_set_ne e] at hk
        have hzm := List.mem_of_getElem? hk
        refine (h.wmaps z hzm).off oFin (fun e2 => ?_)
        rcases e2 with e2 | e2 | e2
        · have h1 : (x.wm.map Prod.fst)[k]? = some y.1 := by rw [List.getElem?_map, hk, ← e2]; rfl
          have h2 : (x.wm.map Prod.fst)[t]? = some y.1 := by rw [List.getElem?_map, hyt]; rfl
          exact e ((List.getElem?_inj (by rw [List.length_map]; exact (List.getElem?_eq_some_iff.1 hyt).1) h.nod).1 (h2.trans h1.symm))
        · exact (h.wmaps z hzm).ne_box h.box e2
        · obtain ⟨_, _, cur, hb⟩ := own_blk HOW0.out e2
          exact (h.wmaps z hzm).ne_box hb rfl
    · rw [List.length_append, cellsOf_append]
      have := ow8.1
      rw [List.set_append_right _ _ (by rw [cellsOf_len wcl_len]; omega), cellsOf_len wcl_len, show x.ws.length * 3 + 2 - x.ws.length * 3 = 2 by omega] at this
      simpa [cellsOf, wcl, RV.v, HK0.out.1, hl8] using this
    · refine own_offb h.rown oFin (fun g hg e => ?_)
      obtain ⟨_, _, cur, hb⟩ := own_blk h.rown hg
      rcases e with e | e | e
      · exact (h.wmaps y hym).ne_box hb e.symm
      · exact box_ne hb h.box (by decide) e
      · obtain ⟨_, _, cur2, hb2⟩ := own_blk HOW0.out e
        exact box_ne hb hb2 (by decide) rfl
    · intro k hk
      exact Nat.lt_of_lt_of_le (HBD10.out k hk) (Nat.le_trans HB8.out.size hoz.size)
    · intro g hg
      simp [Value.ownBlock] at hg
      exact .inr hg.symm
    · intro g hg; exact .inl (h.hr g hg)
    · intro z hz
      rcases List.mem_append.1 hz with hz | hz
      · exact h.keepw oFin HTS.out hS1 z hz
      · rw [List.mem_singleton] at hz
        subst hz
        have st6 : Stay (fun k => S k ∨ k = g9) (w8.setCell ⟨g9, x.ws.length * 3 + 2, none⟩ (.slice a8 rn c8)) fun W' => Ls .u8 W' a6 c6 Ky := by
          have o6 : Off S w6 (w8.setCell ⟨g9, x.ws.length * 3 + 2, none⟩ (.slice a8 rn c8)) := by
            refine Off.set2 (S := S) (Off.trans (W' := w10) ?_ (Off.of HB8.out)) _ (hg9t.imp (fun e => h.hw _ (by rw [HV.out]; exact e)) fun e => by show w6.heap.size ≤ g9; omega) _
            rw [HW10.out]
            refine Off.set (S := S) ?_ _ h.hp _
            exact (Off.of (bl1 w6 (.cells #[.int .i64 (t : Int), .slice a6 kn c6, .slice none 0 0] 84))).trans ((Off.of_row HG9.out).mono fun k hk => h.hw _ (by rw [HV.out]; exact hk))
          refine HO6.out.step o6 (fun k hk => ?_)
          rcases hk with hk | rfl
          · exact .inl hk
          · exact hg9t.imp (fun e => h.hw _ (by rw [HV.out]; exact e)) fun e => by omega
        have st8 : Stay (fun k => S k ∨ k = g9) (w8.setCell ⟨g9, x.ws.length * 3 + 2, none⟩ (.slice a8 rn c8)) fun W' => RdR W' a8 R8 := hst8.off (hoz.mono fun k hk => .inr hk)
        exact fun W' o => ⟨st6 W' o, st8 W' o⟩
    · intro z hz
      rcases List.mem_append.1 hz with hz | hz
      · exact h.wok z hz
      · rw [List.mem_singleton] at hz
        subst hz
        refine ⟨by show t < m.tabs.length; have := h.wlen; omega, HK0.out.2.2, fun hne => ?_⟩
        show rOk (R8.map P1.bs)
        rw [hm8]
        refine HR0.out.2 (fun e => hne ?_)
        rw [e] at hm8
        simpa using hm8
    · exact h.keepr oFin HTS.out hS1
    · intro t' z hz K' i
      have hrs := (h.wmaps y hym).ris
      by_cases e : t = t'
      · subst e
        rw [List.getElem?_set_self (by have := (List.getElem?_eq_some_iff.1 hyt).1; exact this)] at hz
        cases hz
        exact coh_new hrs (h.coh t y hyt) HI.out _ rfl rfl K' i
      · rw [List.getElem?_set_ne e] at hz
        exact coh_oth (h.coh t' z hz) _ e K' i
    · intro z hz
      show z.2.length ≤ (x.ws ++ [_]).length
      rw [List.length_append, List.length_singleton]
      rcases List.mem_or_eq_of_mem_set hz with hz | rfl
      · have := h.wl z hz; omega
      · have := h.wl y hym
        have := setM_len (h.wmaps y hym).ris Ky (some x.ws.length)
        show (setM y.2 Ky (some x.ws.length)).length ≤ _
        omega
    · show (x.ws ++ [_]).length ≤ 1000
      rw [List.length_append, List.length_singleton]; omega
    · exact h.rfew
  · intro k hk
    rcases hk with hk | ⟨z, hz, hk⟩ | hk
    · exact .inl (.inl hk)
    · rcases List.mem_or_eq_of_mem_set hz with hz | rfl
      · exact .inl (.inr (.inl ⟨z, hz, hk⟩))
      · exact .inl (.inr (.inl ⟨y, hym, hk⟩))
    · simp [Value.ownBlock] at hk
      subst hk
      exact hg9t.imp (fun e => .inr (.inr (by rw [HV.out]; exact e))) And.left
  · rw [List.map_append, setW_new h hyt HI.out]
    show _ ++ [(t, Ky, R8.map P1.bs)] = _
    rw [hm8]
end Go.Proofs.YthmofoldmdafoaaGreat
namespace Go.Proofs.YthmofoldmdafoaaGreat
open Go.ChangeShapes Go.WideShapes Go.ChangeAt Go.RowKit Go.Maps
set_option linter.unusedVariables false
set_option linter.unusedSimpArgs false

theorem setW_old {S : Nat → Prop} {base : Nat} {w : World} {m : Md} {x : Tl} (h : TlR S base w m x) {t : Nat} {y : Nat × List (List Int × Nat)} (hy : x.wm[t]? = some y) {K : List Int} {i : Nat} (hi : getM y.2 K = some i) (z : WtV) (wt : WtV) (h1 : x.ws[i]? = some wt) (hz : z.t = t) (hk : z.K = K) :
    (x.ws.set i z).map WtV.P = setW (x.ws.map WtV.P) t K z.r.P := by
  have hw : wt.t = t ∧ wt.K = K := by
    obtain ⟨v, e1, e2, e3⟩ := (h.coh t y hy K i).1 hi
    rw [h1] at e1; cases e1; exact ⟨e2, e3⟩
  unfold setW
  rw [if_pos]
  · apply List.ext_getElem?
    intro k
    rw [List.getElem?_map, List.map_map, List.getElem?_map]
    by_cases e : i = k
    · subst e
      rw [List.getElem?_set_self (List.getElem?_eq_some_iff.1 h1).1, h1]
      show some (z.P) = some (if wt.P.1 = t ∧ wt.P.2.1 = K then _ else _)
      rw [if_pos (show wt.P.1 = t ∧ wt.P.2.1 = K from hw)]
      show some (z.t, z.K, z.r.P) = _
      rw [hz, hk]
    · rw [List.getElem?_set_ne e]
      cases hk2 : x.ws[k]? with
      | none => rfl
      | some v =>
        show some v.P = some (if v.P.1 = t ∧ v.P.2.1 = K then _ else _)
        rw [if_neg (fun hv : v.P.1 = t ∧ v.P.2.1 = K => ?_)]
        have := (h.coh t y hy K k).2 ⟨v, hk2, hv.1, hv.2⟩
        rw [hi] at this
        cases this
        exact e rfl
  · rw [List.any_map, List.any_eq_true]
    exact ⟨wt, List.mem_of_getElem? h1, by show decide (wt.t = t ∧ wt.K = K) = true; simp [hw]⟩
/-- set (140). -/
theorem tset_law {S : Nat → Prop} {base : Nat} {w : World} {m : Md} {x : Tl} (h : TlR S base w m x) (hbs : base ≤ w.heap.size) (t : Nat) (ht : t < m.tabs.length) (K : List Int) (ok : keyOk K) (ka : Option Addr) (kn kc : Nat) (hK : K.length = kn) (hk : Stay S w fun W => Ls .u8 W ka kc K)
    (ra : Option Addr) (rn rc : Nat) (R : List P1) (hR : R.length = rn) (okR : R ≠ [] → rOk (R.map P1.bs)) (hr : Stay S w fun W => RdR W ra R) (hf : x.ws.length < 1000) :
    Calls Tryz.prog 140 #[.pointer (some ⟨x.px, 0, none⟩), .int .i64 (t : Int), .slice ka kn kc, .slice ra rn rc] w fun r w' => r = .returned (.tuple #[]) ∧ ∃ S' x', TSt S S' base w m x w' x' ∧ x'.ws.map WtV.P = setW (x.ws.map WtV.P) t K (R.map P1.bs) := by
  obtain ⟨y, hy⟩ : ∃ y, x.wm[t]? = some y := ⟨_, List.getElem?_eq_getElem (by rw [h.wlen]; exact ht)⟩
  cases hi : getM y.2 K with
  | none => exact tset_new h hbs t ht K ok ka kn kc hK hk ra rn rc R hR okR hr hf y hy hi (by have := h.wl y (List.mem_of_getElem? hy); omega)
  | some i =>
    refine (tset_dev h hbs t ht K ok ka kn kc hK hk.now ra rn rc R hR okR hr.now hf y hy i hi).mono ?_
    rintro r w' ⟨rfl, wt, a8, c8, R8, w8, g, c, h1, ht1, hk1, hv, rfl, hl8, hm8, hb8, hst8⟩
    refine ⟨rfl, ?_⟩
    have how := h.own
    rw [hv] at how
    have hoz : Off (fun k => k = g) w8 (w8.setCell ⟨g, i * 3 + 2, none⟩ (.slice a8 rn c8)) := Off.set (S := fun k => k = g) (Off.refl _ w8) ⟨g, i * 3 + 2, none⟩ rfl _
    have o : Off (fun k => k = g) w (w8.setCell ⟨g, i * 3 + 2, none⟩ (.slice a8 rn c8)) := (Off.of hb8).trans hoz
    have hgo := own_blk how rfl
    have hT : ∀ k, (fun k => k = g) k → S k ∧ base ≤ k := fun k hk => by
      cases hk
      exact ⟨h.hw g (by rw [hv]; rfl), hgo.1⟩
    have hS' : ∀ k, S k → S k ∨ w.heap.size ≤ k := fun k hk => .inl hk
    have ow8 := ((own_kept how hb8).stored (i * 3 + 2) (.slice a8 rn c8)).1
    have hil := (List.getElem?_eq_some_iff.1 h1).1
    refine ⟨S, { x with ws := x.ws.set i { wt with r := ⟨a8, c8, R8⟩ } }, ⟨?_, fun k hk => hk, hS', o.mono (fun k hk => by cases hk; exact .inr (.inr (by rw [hv]; rfl))), fun k hk => .inl hk, rfl, rfl, rfl, rfl, rfl⟩, ?_⟩
    · refine h.next o hT { x with ws := x.ws.set i { wt with r := ⟨a8, c8, R8⟩ } } rfl rfl rfl rfl rfl ?_ ?_ ?_ ?_ S (fun k hk => hk) hS' ?_ h.hw h.hr ?_ ?_ ?_ ?_ ?_ ?_ h.rfew
      · have hb := o.box h.box (fun e => by
          obtain ⟨_, _, cur, hb⟩ := hgo
          exact box_ne hb h.box (by decide) e.symm)
        exact hb
      · intro z hz
        refine (h.wmaps z hz).off o (fun e => ?_)
        obtain ⟨_, _, cur, hb⟩ := hgo
        exact (h.wmaps z hz).ne_box hb e
      · show World.ownsRow _ base 84 3 x.wv _ _
        rw [hv, List.length_set]
        rw [cells_set wcl_len (by omega) x.ws i 2 wt { wt with r := ⟨a8, c8, R8⟩ } (.slice a8 rn c8) h1 (by omega) (by simp [wcl, RV.v, hl8])] at ow8
        exact ow8
      · refine own_offb h.rown o (fun q hq e => ?_)
        obtain ⟨_, _, cur, hb⟩ := own_blk h.rown hq
        obtain ⟨_, _, cur2, hb2⟩ := hgo
        exact box_ne hb hb2 (by decide) e
      · intro k hk
        exact Nat.lt_of_lt_of_le (h.bd k hk) o.size
      · intro z hz
        rcases List.mem_or_eq_of_mem_set hz with hz | rfl
        · exact h.keepw o hT hS' z hz
        · have st8 := hst8.off (hoz.mono fun k hk => (hT k hk).1)
          have st6 := h.keepw o hT hS' wt (List.mem_of_getElem? h1)
          exact fun W' o => ⟨(st6 W' o).1, st8 W' o⟩
      · intro z hz
        rcases List.mem_or_eq_of_mem_set hz with hz | rfl
        · exact h.wok z hz
        · have := h.wok wt (List.mem_of_getElem? h1)
          refine ⟨this.1, this.2.1, fun hne => ?_⟩
          show rOk (R8.map P1.bs)
          rw [hm8]
          refine okR (fun e => hne ?_)
          rw [e] at hm8
          simpa using hm8
      · exact h.keepr o hT hS'
      · intro t' z hz K' j
        rw [h.coh t' z hz K' j]
        show _ ↔ ∃ w, (x.ws.set i _)[j]? = some w ∧ _
        by_cases e : i = j
        · subst e
          rw [List.getElem?_set_self hil, h1]
          simp
        · rw [List.getElem?_set_ne e]
      · intro z hz
        show _ ≤ (x.ws.set i _).length
        rw [List.length_set]; exact h.wl z hz
      · show (x.ws.set i _).length ≤ 1000
        rw [List.length_set]; exact h.few
    · show (x.ws.set i _).map WtV.P = _
      rw [setW_old h hy hi { wt with r := ⟨a8, c8, R8⟩ } wt h1 ht1 hk1]
      show setW _ t K (R8.map P1.bs) = _
      rw [hm8]
end Go.Proofs.YthmofoldmdafoaaGreat
namespace Go.Proofs.YthmofoldmdafoaaGreat
open Go.ChangeShapes Go.WideShapes Go.ChangeAt Go.RowKit Go.Maps
set_option linter.unusedVariables false
set_option linter.unusedSimpArgs false

theorem conv_str (w : World) (s : ByteArray) : (convert 9 42 (.string s)).run Tryz.prog w = .ok (.slice (some ⟨w.heap.size, 0, none⟩) s.size (grownCap w s.size 0 5)) (Lib.bytesWorld w 5 s) := Lib.run_convert_string_bytes w 9 42 5 s Tryz.underlying9 Tryz.underlying42 Tryz.underlying5
theorem bw_below (w : World) (s : ByteArray) : Below w.heap.size w (Lib.bytesWorld w 5 s) := ⟨rfl, rfl, rfl, by rw [Lib.bytesWorld_size]; omega, fun k hk => Lib.bytesWorld_at_old w 5 s k hk⟩
theorem bw_stay {S : Nat → Prop} (w : World) {K : List Int} (bK : Byt K) (hn : K.length ≤ maxLen) (hs : ∀ k, S k → k < w.heap.size) : Stay S (Lib.bytesWorld w 5 (strOfNums K)) fun W' => Ls .u8 W' (some ⟨w.heap.size, 0, none⟩) (grownCap w (strOfNums K).size 0 5) K := fun W' o => by
  have hsz : (strOfNums K).size = K.length := str_size K
  refine ⟨fun k hk => ⟨w.heap.size, 0, rfl, ?_⟩, fun e => (by cases e), ?_⟩
  · have h1 := o.block w.heap.size (by rw [Lib.bytesWorld_size]; omega) (fun hh => by have := hs _ hh; omega)
    have h2 := Lib.bytesWorld_cell w 5 (strOfNums K) k (by rw [hsz]; exact hk)
    have h3 : W'.cell? ⟨w.heap.size, 0 + k, none⟩ = (Lib.bytesWorld w 5 (strOfNums K)).cell? ⟨w.heap.size, k, none⟩ := by
      rw [Nat.zero_add]
      simp only [World.cell?, h1]
    rw [h3, h2]
    have hb := bK.get k hk
    have e1 : (strOfNums K).data.toList = K.map fun x => UInt8.ofNat x.toNat := by rw [← ByteArray.toList_eq]; exact str_list K
    rw [e1, List.getD_eq_getElem?_getD, List.getElem?_map, List.getElem?_eq_getElem hk]
    rw [List.getD_eq_getElem?_getD, List.getElem?_eq_getElem hk] at hb ⊢
    simp only [Option.getD_some, Option.map_some] at hb ⊢
    rw [UInt8.toNat_ofNat', Nat.mod_eq_of_lt (by omega)]
    congr 2
    omega
  · rw [hsz]
    exact grownCap_ge w K.length 0 5
/-- A pair in new memory. -/
def PairO (w : World) (K : List Int) (R : List P1) (r : Ending) (w' : World) : Prop :=
  ∃ y : PrV, r = .returned (.agg #[.slice y.ka y.K.length y.kc, .slice y.ra y.R.length y.rc]) ∧ y.K = K ∧ y.R.map P1.bs = R.map P1.bs ∧ Below w.heap.size w w' ∧ ∀ S : Nat → Prop, (∀ k, S k → k < w.heap.size) → Stay S w' (fun W' => Ls .u8 W' y.ka y.kc y.K ∧ RdR W' y.ra y.R)
set_option maxRecDepth 100000 in
set_option maxHeartbeats 4000000 in
/-- pair (114). -/
theorem pair_law (K : List Int) (bK : Byt K) (hn : K.length ≤ 1000000) (ra : Option Addr) (rn rc : Nat) (R : List P1) (hR : R.length = rn) (hrn : rn ≤ 9000) (hl : ∀ q ∈ R, q.bs.length ≤ 9000) (w : World) (hr : RdR w ra R) :
    Calls Tryz.prog 114 #[.string (strOfNums K), .slice ra rn rc] w (PairO w K R) := by
  have HCS := Lib.hid (fun W => conv_str W (strOfNums K))
  have hcs := HCS.out
  have HRR := Lib.hid (And.intro hR (And.intro hrn (And.intro hl hr)))
  have HK := Lib.hid (And.intro bK hn)
  have HSZ := Lib.hid (str_size K)
  clear hR hrn hl hr bK hn
  go_enter Tryz.func114, Tryz.ntmps114
  go_wp2_with fail
  have HA := Lib.hid (bl1 w (.cells #[.slice none 0 0, .slice none 0 0] 78))
  have HB := Lib.hid (bw_below (w.alloc (.cells #[.slice none 0 0, .slice none 0 0] 78)) (strOfNums K))
  refine (rowcopy_law ra R rn rc HRR.out.1 HRR.out.2.1 HRR.out.2.2.1 _ (HRR.out.2.2.2.below (step_below HA.out HB.out))).mono ?_; rintro r w1 ⟨⟨v, rfl, hc⟩, hb1⟩
  obtain ⟨a8, c8, R8, hv8, hl8, hm8, hst8⟩ := cpR_stay (S := fun k => k ≤ w.heap.size) hc HRR.out.1 (fun k hk => by rw [Lib.bytesWorld_size, World.size_alloc]; omega)
  subst hv8
  have hst6 := (bw_stay (S := fun k => k ≤ w.heap.size) (w.alloc (.cells #[.slice none 0 0, .slice none 0 0] 78)) HK.out.1 (key_max HK.out.2) (fun k hk => by rw [World.size_alloc]; omega)).below hb1
  have hbx := ((BoxC.new w #[.slice none 0 0, .slice none 0 0] 78).below HB.out).below hb1
  have HBX := Lib.hid hbx
  have HST := Lib.hid (And.intro hst8 (And.intro hst6 (And.intro hl8 hm8)))
  have HB1 := Lib.hid (step_below (step_below HA.out HB.out) hb1)
  have x0 := hbx.cell 0
  have x1 := hbx.cell 1
  have f0 := hbx.frozen 0
  have f1 := hbx.frozen 1
  clear hc hb1 hl8 hm8 hst8 hst6 hbx
  go_wp2_with fail
  rw [HSZ.out]
  have hb2 := BoxC.set2 (x := .slice (some ⟨w.heap.size + 1, 0, none⟩) K.length (grownCap (w.alloc (.cells #[.slice none 0 0, .slice none 0 0] 78)) K.length 0 5)) (y := .slice a8 rn c8) HBX.out
  have hof : Off (fun k => k ≤ w.heap.size) w1 ((w1.setCell ⟨w.heap.size, 0, none⟩ (.slice (some ⟨w.heap.size + 1, 0, none⟩) K.length (grownCap (w.alloc (.cells #[.slice none 0 0, .slice none 0 0] 78)) K.length 0 5))).setCell ⟨w.heap.size, 1, none⟩ (.slice a8 rn c8)) :=
    Off.set (S := fun k => k ≤ w.heap.size) (Off.set (S := fun k => k ≤ w.heap.size) (Off.refl _ w1) ⟨w.heap.size, 0, none⟩ (Nat.le_refl _) _) ⟨w.heap.size, 1, none⟩ (Nat.le_refl _) _
  have hbl : Below w.heap.size w ((w1.setCell ⟨w.heap.size, 0, none⟩ (.slice (some ⟨w.heap.size + 1, 0, none⟩) K.length (grownCap (w.alloc (.cells #[.slice none 0 0, .slice none 0 0] 78)) K.length 0 5))).setCell ⟨w.heap.size, 1, none⟩ (.slice a8 rn c8)) := (HB1.out.setCell (Nat.le_refl _) _).setCell (Nat.le_refl _) _
  revert hb2 hof hbl
  generalize (w1.setCell ⟨w.heap.size, 0, none⟩ (.slice (some ⟨w.heap.size + 1, 0, none⟩) K.length (grownCap (w.alloc (.cells #[.slice none 0 0, .slice none 0 0] 78)) K.length 0 5))).setCell ⟨w.heap.size, 1, none⟩ (.slice a8 rn c8) = w2
  intro hb2 hof hbl
  have c0 := hb2.cell 0
  have c1 := hb2.cell 1
  have HBL := Lib.hid hbl
  have HS2 := Lib.hid (And.intro (HST.out.1.off hof) (HST.out.2.1.off hof))
  clear hb2 hof hbl x0 x1 f0 f1
  refine bodyPost_end (v := .agg #[.slice (some ⟨w.heap.size + 1, 0, none⟩) K.length (grownCap (w.alloc (.cells #[.slice none 0 0, .slice none 0 0] 78)) K.length 0 5), .slice a8 rn c8]) (by simp [results, Tryz.results114, go_sem, c0, c1]) rfl ?_
  have hs2 := HS2.out
  rw [HSZ.out, World.size_alloc] at hs2
  refine ⟨⟨_, _, K, a8, c8, R8⟩, by rw [← HST.out.2.2.1], rfl, HST.out.2.2.2, HBL.out, fun S hS => ?_⟩
  exact fun W' o => ⟨(hs2.2.less (fun k hk => Nat.le_of_lt (hS k hk))) W' o, (hs2.1.less (fun k hk => Nat.le_of_lt (hS k hk))) W' o⟩
end Go.Proofs.YthmofoldmdafoaaGreat
namespace Go.Proofs.YthmofoldmdafoaaGreat
open Go.ChangeShapes Go.WideShapes Go.ChangeAt Go.RowKit Go.Shelf
set_option linter.unusedVariables false
set_option linter.unusedSimpArgs false

end Go.Proofs.YthmofoldmdafoaaGreat
namespace Go.Proofs.YthmofoldmdafoaaGreat
open Go.ChangeShapes Go.WideShapes Go.ChangeAt Go.RowKit Go.Shelf
set_option linter.unusedVariables false
set_option linter.unusedSimpArgs false

/-- What is kept while a list is rewritten. -/
structure DI (q : E1 → Bool) (L M : List E1) (i j : Nat) : Prop where
  len : M.length = L.length
  pre : M.take i = (L.take j).filter fun x => !q x
  post : M.drop j = L.drop j
  lt : i < j
  le : j ≤ L.length
end Go.Proofs.YthmofoldmdafoaaGreat
namespace Go.Proofs.YthmofoldmdafoaaGreat
open Go.ChangeShapes Go.WideShapes Go.ChangeAt Go.RowKit Go.Shelf
set_option linter.unusedVariables false
set_option linter.unusedSimpArgs false

end Go.Proofs.YthmofoldmdafoaaGreat
namespace Go.Proofs.YthmofoldmdafoaaGreat
open Go.ChangeShapes Go.WideShapes Go.ChangeAt Go.RowKit Go.Shelf
set_option linter.unusedVariables false
set_option linter.unusedSimpArgs false

end Go.Proofs.YthmofoldmdafoaaGreat
namespace Go.Proofs.YthmofoldmdafoaaGreat
open Go.ChangeShapes Go.WideShapes Go.ChangeAt Go.RowKit Go.Shelf
set_option linter.unusedVariables false
set_option linter.unusedSimpArgs false

def kB : List Bool := [false, false, false, false, false, false, true, true, false, false, false, false, true, true, true, false, false, true, true, true, true, false, false, true, true, true, false, false, false, true, true, false, false, true, false, false, true, false, false, true, true, false]
def kV : Array Value := (kB.map Value.bool).toArray
def kZ : Array Value := ((List.replicate 42 false).map Value.bool).toArray
theorem info155 : (Tryz.prog.info? 213).map (·.size) = some 42 := by kernel_rfl
theorem kV_size : kV.size = 42 := by decide
theorem kZ_size : kZ.size = 42 := by decide
theorem kV_one : kV.all (·.oneCell') = true := by
  rw [Array.all_eq_true]
  intro i hi
  simp [kV, Value.oneCell']
theorem kst (w : World) : (storeCells ⟨w.heap.size, 0, none⟩ kV.toList 0).run Tryz.prog (w.alloc (.cells kZ 213)) = .ok () (w.alloc (.cells kV 213)) :=
  run_storeCells_new w 213 kZ kV (by rw [info155, kV_size]) (by rw [kV_size, kZ_size]) kV_one
theorem kld (w : World) : (loadVar 213 ⟨w.heap.size, 0, none⟩).run Tryz.prog (w.alloc (.cells kV 213)) = .ok (.agg kV) (w.alloc (.cells kV 213)) :=
  run_loadVar_new w 213 kV 7 197 Tryz.underlying213 (by rw [info155, kV_size])
end Go.Proofs.YthmofoldmdafoaaGreat
