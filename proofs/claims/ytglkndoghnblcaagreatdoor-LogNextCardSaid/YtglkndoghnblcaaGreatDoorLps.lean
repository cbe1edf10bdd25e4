/- LogNext: the walk. -/
import Derived.Test.YtglkndoghnblcaaGreatDoorLpm
import Derived.Test.YtglkndoghnblcaaGreatDoorLpp
import Derived.Test.YtglkndoghnblcaaGreatDoorLpr
import Derived.Test.YtglkndoghnblcaaGreatDoorOkk
import Derived.Test.YtglkndoghnblcaaGreatDoorSrm
import Derived.Deep.DeepCutAuto
import Derived.Deep.CutBlock
namespace Go.Proofs.YtglkndoghnblcaaGreatDoor
open Go.ChangeShapes Go.WideShapes Go.ChangeAt Go.RowKit
set_option linter.unusedVariables false
set_option linter.unusedSimpArgs false
theorem own_nil {W : World} {base n c s : Nat} {t : TypeId} {a : Option Addr} {xs : List Value} (h : W.ownsRow base t s (.slice a n c) n xs) : a = none → c = 0 := fun e => by
  rcases h.2 with ⟨e0, h0⟩ | ⟨g, cap, cur, e0, _⟩
  · cases e0; rfl
  · cases e0; cases e
theorem step_append_lps {ops : Array Oper} {o : Oper} {a : Act} {w : World} {Kt : Act → World → Prop} {Q : Exit → Act → World → Prop} {Z : Prop} (hgd : o.guard = none) (s x : Operand)
    (ho : o.op = .call { callee := .builtin .append, args := #[s, x], argTypes := #[37, 37] })
    (base : Nat) (v : Value) (n : Nat) (xs : List LpV) (hs : a.eval s = v) (hown : w.ownsRow base 42 2 v n (lcells xs))
    (ad : Option Addr) (c len : Nat) (ys : List LpV) (hlen : ys.length = len) (hx : a.eval x = .slice ad len c) (hR : LpsR w ad ys) (hnil : ad = none → c = 0) (hb : n + len ≤ 1048576) (hbase : base ≤ w.heap.size)
    (h : ∀ v' w', w'.ownsRow base 42 2 v' (n + len) (lcells (xs ++ ys)) → w.grownBy w' v.ownBlock → Kt (a.put o.dst v') w') :
    if Region.wanted o (yielded ops a.tmps) = true then Oper.wp Tryz.prog o a w Kt Q else Z := by
  have hw : Region.wanted o (yielded ops a.tmps) = true := by simp [Region.wanted, hgd]
  rw [if_pos hw]
  obtain ⟨v', w', h1, h2, h3⟩ := run_append_lps w o.type base v n xs hown ad c len ys hlen hR hnil hb hbase
  unfold Oper.wp execOp
  simp only [ho, resolve, invoke, builtin, Sem.run_bind, Sem.run_pure, Result.andThen_ok, List.map_toArray, List.map_cons, List.map_nil, hs, hx, h1]
  exact h v' w' h2 h3
theorem nxV_len (ok : Bool) (g e mx : Int) (nm : ByteArray) (L : List LpV) : (nxV ok g e mx nm L).1.2.2.2.2.length ≤ L.length := by
  unfold nxV; split <;> simp
theorem NxR_open {w w' : World} {vg ve vf ver : Int} {vn : ByteArray} {VL : List LpV} {r : Ending} (h : NxR w ((vg, vn, ve, vf, VL), ver) r w') :
    ∃ a c l, r = .returned (.tuple #[.agg #[.int .i64 vg, .string vn, .int .i64 ve, .int .i64 vf, .slice a l c], .int .i64 ver]) ∧ LpsR w' a VL ∧ VL.length = l ∧ Below w.heap.size w w' := by
  obtain ⟨⟨a, c, h1, h2, h3⟩, h4⟩ := h
  exact ⟨a, c, _, h1, h2, rfl, h4⟩
theorem NlR_open {w w' : World} {NL : List ByteArray} {er : Int} {r : Ending} (h : NlR w (NL, er) r w') :
    ∃ a c l, r = .returned (.tuple #[.slice a l c, .int .i64 er]) ∧ StrR w' a NL ∧ NL.length = l ∧ Below w.heap.size w w' := by
  obtain ⟨⟨a, c, h1, h2⟩, h4⟩ := h
  exact ⟨a, c, _, h1, h2, rfl, h4⟩
theorem nlV_len (ok : Bool) (g : Int) (nm : ByteArray) (xs : List LpV) (ns : List ByteArray) : (nlV ok g nm xs ns).1.length ≤ ns.length := by
  unfold nlV; split
  · exact List.length_filter_le _ _
  · simp
set_option maxRecDepth 100000 in
set_option maxHeartbeats 4000000 in
/-- LogNext (4). -/
theorem lognext_law (g e f fl : Int) (nm : ByteArray) (a b an : Option Addr) (c d cn n m p : Nat) (xs ys : List LpV) (ns : List ByteArray) (hs : nm.size ≤ 140737488355328) (hsx : ∀ x ∈ xs, x.1.size ≤ 140737488355328) (hsy : ∀ x ∈ ys, x.1.size ≤ 140737488355328) (hn : xs.length = n) (hm : ys.length = m) (hp : ns.length = p) (hn2 : n ≤ 140737488355328) (hm2 : m ≤ 140737488355328) (hp2 : p ≤ 140737488355328) (hnc : n ≤ c) (hna : a = none → c = 0) (hnb : b = none → d = 0) (w : World) (ht : TabW w) (hA : LpsR w a xs) (hB : LpsR w b ys) (hC : StrR w an ns) :
    Calls Tryz.prog 4 #[.agg #[.int .i64 g, .string nm, .int .i64 e, .int .i64 f, .slice a n c], .int .i64 fl, .slice b m d, .slice an p cn] w fun r w' => r = .returned (.bool true) ∧ Below w.heap.size w w' := by
  have HR := Lib.hid (And.intro hA (And.intro hB hC))
  have HN := Lib.hid (And.intro hn (And.intro hm hp))
  have HNL := Lib.hid (And.intro hna hnb)
  have HNC := Lib.hid hnc
  have HTB := Lib.hid ht
  have HSS := Lib.hid (And.intro (show nm.size ≤ maxLen by unfold maxLen; omega) (And.intro (show ∀ x ∈ xs, x.1.size ≤ maxLen from fun x hx => by have := hsx x hx; unfold maxLen; omega) (show ∀ x ∈ ys, x.1.size ≤ maxLen from fun x hx => by have := hsy x hx; unfold maxLen; omega)))
  clear hA hB hC hn hm hp hna hnb hnc ht hsx hsy
  go_enter Tryz.func4, Tryz.ntmps4
  go_upto_region 1 with (fail)
  obtain ⟨W1, hW0⟩ : ∃ W0, w.alloc (.cells #[.int .i64 g, .string nm, .int .i64 e, .int .i64 f, .slice a n c] 39) = W0 := ⟨_, rfl⟩
  have hb0 : Below w.heap.size w W1 := by rw [← hW0]; exact bl1 _ _
  have bx : BoxC W1 w.heap.size #[.int .i64 g, .string nm, .int .i64 e, .int .i64 f, .slice a n c] 39 := by rw [← hW0]; exact BoxC.new w _ 39
  try rw [hW0]
  clear hW0
  have HB0 := Lib.hid hb0
  have FQ := Lib.hid (fun X (b' : Below W1.heap.size W1 X) => (⟨(bx.below b').cell 0, (bx.below b').cell 1, (bx.below b').cell 2, (bx.below b').cell 3, (bx.below b').cell 4⟩ : X.cell? ⟨w.heap.size, 0, none⟩ = some (.int .i64 g) ∧ X.cell? ⟨w.heap.size, 1, none⟩ = some (.string nm) ∧ X.cell? ⟨w.heap.size, 2, none⟩ = some (.int .i64 e) ∧ X.cell? ⟨w.heap.size, 3, none⟩ = some (.int .i64 f) ∧ X.cell? ⟨w.heap.size, 4, none⟩ = some (.slice a n c)))
  clear hb0 bx
  obtain ⟨y0, y1, y2, y3, y4⟩ := FQ.out W1 (Below.refl _ _)
  have w1 : IntKind.i64.wrap ((nm.size : Int) + (n : Int)) = ((nm.size + n : Nat) : Int) := by rw [IntKind.wrap_i64]; omega
  go_upto_block 0 with (fail)
  go_cut [9] (fun v wx => ∃ s : Nat, v = .int .i64 (s : Int) ∧ n ≤ s ∧ s ≤ 281474976910656 ∧ Hid (Below W1.heap.size W1 wx))
  case first =>
    clear y0 y1 y2 y3 y4
    go_wp2_with fail
    go_loopw [9, 10] (fun v i wr => ∃ (k s : Nat), k ≤ n ∧ i = .int .i64 (k : Int) ∧ v = .int .i64 (s : Int) ∧ n ≤ s ∧ s ≤ 281474976910656 ∧ Hid (Below W1.heap.size W1 wr)) (fun _ i _ => n - (intOf i).toNat)
    case atStart => exact ⟨0, nm.size + n, by omega, rfl, rfl, by omega, by omega, Lib.hid (Below.refl _ _)⟩
    case round =>
      obtain ⟨k, s, hk, rfl, rfl, hsl, hs2, HBW⟩ := hrel
      obtain ⟨y0, y1, y2, y3, y4⟩ := FQ.out wr HBW.out
      by_cases hlt : k < n
      · have e1 : (k : Int) < (n : Int) := by omega
        by_cases hs9 : s ≤ 9000
        · have e2 : (s : Int) ≤ 9000 := by omega
          obtain ⟨x, hx⟩ : ∃ x, xs[k]? = some x := ⟨_, List.getElem?_eq_getElem (by rw [HN.out.1]; exact hlt)⟩
          obtain ⟨b1, o1, rfl, c0, _⟩ := (HR.out.1.below (step_below HB0.out HBW.out)) k x hx
          obtain ⟨xn, hxn⟩ : ∃ z, x.1 = z := ⟨_, rfl⟩
          rw [hxn] at c0
          obtain ⟨kn, hkn⟩ : ∃ kn, xn.size = kn := ⟨_, rfl⟩
          obtain ⟨km, hkm⟩ : ∃ km : Nat, km = min kn 9001 := ⟨_, rfl⟩
          have HKM := Lib.hid (And.intro hkm hkn)
          have m1 : min (kn : Int) 9001 = (km : Int) := by omega
          have w3 : IntKind.i64.wrap ((s : Int) + (km : Int)) = ((s + km : Nat) : Int) := by rw [IntKind.wrap_i64]; omega
          have hkb : km ≤ 9001 := by omega
          clear hx hxn hkm hs9
          go_wp2_with fail
          go_roundw
          case rel => exact ⟨k + 1, s + km, by omega, by go_num, by have h1 := HKM.out; first | rfl | (congr 1; split <;> omega), by omega, by omega, HBW⟩
          case measure => simp [intOf]; omega
        · have e2 : ¬ (s : Int) ≤ 9000 := by omega
          clear hs9
          go_wp2_with fail
          go_meet
          exact ⟨s, rfl, by omega, hs2, HBW⟩
      · have e1 : ¬ (k : Int) < (n : Int) := by omega
        go_wp2_with fail
        go_meet
        exact ⟨s, rfl, by omega, hs2, HBW⟩
  case rest =>
  clear y0 y1 y2 y3 y4 w1
  obtain ⟨s, rfl, hsn, hs2, HBW⟩ := hcut
  go_upto_block 2 with (fail)
  go_cut [9] (fun v wx => ∃ s' : Nat, v = .int .i64 (s' : Int) ∧ n ≤ s' ∧ s' ≤ 281474976910656 + 1 * 1900000 ∧ Hid (Below W1.heap.size W1 wx))
  case first =>
    go_wp2_with fail
    go_loopw [9, 11] (fun v i wr => ∃ (k s' : Nat), k ≤ m ∧ k ≤ 200 ∧ i = .int .i64 (k : Int) ∧ v = .int .i64 (s' : Int) ∧ n ≤ s' ∧ s' ≤ 281474976910656 + 0 * 1900000 + k * 9001 ∧ Hid (Below W1.heap.size W1 wr)) (fun _ i _ => m - (intOf i).toNat)
    case atStart => exact ⟨0, s, by omega, by omega, rfl, rfl, hsn, by omega, HBW⟩
    case round =>
      clear HBW hsn hs2
      obtain ⟨k, s, hk, hk2, rfl, rfl, hsn, hs2, HBV⟩ := hrel
      by_cases hlt : k < m
      · have e1 : (k : Int) < (m : Int) := by omega
        by_cases hs9 : k < 200
        · have e2 : (k : Int) < 200 := by omega
          obtain ⟨x, hx⟩ : ∃ x, ys[k]? = some x := ⟨_, List.getElem?_eq_getElem (by rw [HN.out.2.1]; exact hlt)⟩
          obtain ⟨b1, o1, rfl, c0, _⟩ := (HR.out.2.1.below (step_below HB0.out HBV.out)) k x hx
          obtain ⟨xn, hxn⟩ : ∃ z, x.1 = z := ⟨_, rfl⟩
          rw [hxn] at c0
          obtain ⟨kn, hkn⟩ : ∃ kn, xn.size = kn := ⟨_, rfl⟩
          obtain ⟨km, hkm⟩ : ∃ km : Nat, km = min kn 9001 := ⟨_, rfl⟩
          have HKM := Lib.hid (And.intro hkm hkn)
          have m1 : min (kn : Int) 9001 = (km : Int) := by omega
          have w3 : IntKind.i64.wrap ((s : Int) + (km : Int)) = ((s + km : Nat) : Int) := by rw [IntKind.wrap_i64]; omega
          have hkb : km ≤ 9001 := by omega
          clear hx hxn hkm hs9
          go_wp2_with fail
          go_roundw
          case rel => exact ⟨k + 1, s + km, by omega, by omega, by go_num, by have h1 := HKM.out; first | rfl | (congr 1; split <;> omega), by omega, by omega, HBV⟩
          case measure => simp [intOf]; omega
        · have e2 : ¬ (k : Int) < 200 := by omega
          clear hs9
          go_wp2_with fail
          go_meet
          exact ⟨s, rfl, hsn, by omega, HBV⟩
      · have e1 : ¬ (k : Int) < (m : Int) := by omega
        go_wp2_with fail
        go_meet
        exact ⟨s, rfl, hsn, by omega, HBV⟩
  case rest =>
  clear HBW hsn hs2
  obtain ⟨s, rfl, hsn, hs2, HBW⟩ := hcut
  go_upto_block 4 with (fail)
  go_cut [9] (fun v wx => ∃ s' : Nat, v = .int .i64 (s' : Int) ∧ n ≤ s' ∧ s' ≤ 281474976910656 + 2 * 1900000 ∧ Hid (Below W1.heap.size W1 wx))
  case first =>
    go_wp2_with fail
    go_loopw [9, 12] (fun v i wr => ∃ (k s' : Nat), k ≤ p ∧ k ≤ 200 ∧ i = .int .i64 (k : Int) ∧ v = .int .i64 (s' : Int) ∧ n ≤ s' ∧ s' ≤ 281474976910656 + 1 * 1900000 + k * 9001 ∧ Hid (Below W1.heap.size W1 wr)) (fun _ i _ => p - (intOf i).toNat)
    case atStart => exact ⟨0, s, by omega, by omega, rfl, rfl, hsn, by omega, HBW⟩
    case round =>
      clear HBW hsn hs2
      obtain ⟨k, s, hk, hk2, rfl, rfl, hsn, hs2, HBV⟩ := hrel
      by_cases hlt : k < p
      · have e1 : (k : Int) < (p : Int) := by omega
        by_cases hs9 : k < 200
        · have e2 : (k : Int) < 200 := by omega
          obtain ⟨x, hx⟩ : ∃ x, ns[k]? = some x := ⟨_, List.getElem?_eq_getElem (by rw [HN.out.2.2]; exact hlt)⟩
          obtain ⟨b1, o1, rfl, c0⟩ := (HR.out.2.2.below (step_below HB0.out HBV.out)) k x hx
          obtain ⟨xn, hxn⟩ : ∃ z, x = z := ⟨_, rfl⟩
          rw [hxn] at c0
          obtain ⟨kn, hkn⟩ : ∃ kn, xn.size = kn := ⟨_, rfl⟩
          obtain ⟨km, hkm⟩ : ∃ km : Nat, km = min kn 9001 := ⟨_, rfl⟩
          have HKM := Lib.hid (And.intro hkm hkn)
          have m1 : min (kn : Int) 9001 = (km : Int) := by omega
          have w3 : IntKind.i64.wrap ((s : Int) + (km : Int)) = ((s + km : Nat) : Int) := by rw [IntKind.wrap_i64]; omega
          have hkb : km ≤ 9001 := by omega
          clear hx hxn hkm hs9
          go_wp2_with fail
          go_roundw
          case rel => exact ⟨k + 1, s + km, by omega, by omega, by go_num, by have h1 := HKM.out; first | rfl | (congr 1; split <;> omega), by omega, by omega, HBV⟩
          case measure => simp [intOf]; omega
        · have e2 : ¬ (k : Int) < 200 := by omega
          clear hs9
          go_wp2_with fail
          go_meet
          exact ⟨s, rfl, hsn, by omega, HBV⟩
      · have e1 : ¬ (k : Int) < (p : Int) := by omega
        go_wp2_with fail
        go_meet
        exact ⟨s, rfl, hsn, by omega, HBV⟩
  case rest =>
  clear HBW hsn hs2
  obtain ⟨s, rfl, hsn, hs2, HBW⟩ := hcut
  obtain ⟨WA, rfl⟩ : ∃ Y, Y = wc := ⟨_, rfl⟩
  by_cases hs9 : 20000 < s
  · have e1 : (20000 : Int) < (s : Int) := by omega
    go_wp2_with fail
    refine (known_law _).mono ?_; rintro r w5 ⟨rfl, hb5⟩
    have HB5 := Lib.hid (step_below (step_below HB0.out HBW.out) hb5)
    clear hb5
    go_wp2_with fail
    go_ret
    exact ⟨rfl, HB5.out⟩
  have e1 : ¬ (20000 : Int) < (s : Int) := by omega
  by_cases hmb : 200 < m
  · have e2 : (200 : Int) < (m : Int) := by omega
    go_wp2_with fail
    refine (known_law _).mono ?_; rintro r w5 ⟨rfl, hb5⟩
    have HB5 := Lib.hid (step_below (step_below HB0.out HBW.out) hb5)
    clear hb5
    go_wp2_with fail
    go_ret
    exact ⟨rfl, HB5.out⟩
  have e2 : ¬ (200 : Int) < (m : Int) := by omega
  by_cases hpb : 200 < p
  · have e3 : (200 : Int) < (p : Int) := by omega
    go_wp2_with fail
    refine (known_law _).mono ?_; rintro r w5 ⟨rfl, hb5⟩
    have HB5 := Lib.hid (step_below (step_below HB0.out HBW.out) hb5)
    clear hb5
    go_wp2_with fail
    go_ret
    exact ⟨rfl, HB5.out⟩
  have e3 : ¬ (200 : Int) < (p : Int) := by omega
  have hn9 : n ≤ 20000 := by omega
  have hm9 : m ≤ 200 := by omega
  have hp9 : p ≤ 200 := by omega
  clear hsn hs2 hs9 hmb hpb hn2 hm2 hp2 hs
  go_upto_region 16 with (fail)
  go_cut [13] (fun v wx => ∃ (Bx : Nat) (a9 : Option Addr) (c9 : Nat), v = .pointer (some ⟨Bx, 0, none⟩) ∧ Hid (BoxC wx Bx #[.int .i64 g, .string nm, .int .i64 e, .int .i64 f, .slice a9 n c9] 39) ∧ Hid (LpsR wx a9 xs ∧ n ≤ c9 ∧ (a9 = none → c9 = 0)) ∧ Hid (Below W1.heap.size W1 wx))
  case first =>
    clear e1 e2 e3
    rename_i JJ KK hJJ hKK
    refine Code.wp_mono (Q := Exit.then KK (fun _ _ _ => False)) (fun e a' w' h => by cases e <;> first | exact h | exact h.elim) ?_
    refine wp_region_last (z := 13) (S := (fun X => Below WA.heap.size WA X)) (by kernel_rfl) ((Below.refl _ _).drew) (fun hHeld => ?_)
    refine wpAnyL_take (i := 0) (oi := { dst := some 100, op := Op.fieldAddr 39 (Operand.tmp 4) 0, type := 0, pos := "law.go:236", after := #[], guard := none }) (v := ?_) (by kernel_rfl) rfl (by kernel_rfl) rfl (by kernel_rfl) (by kernel_rfl) (by kernel_rfl) (fun _ _ _ h => h) (Or.inl ⟨by rfl, ?_⟩) (by assumption) ?_
    rotate_left
    · intro W hSw; go_simp; try with_reducible rfl
    try simp only [Act.put, List.setIfInBounds_toArray, List.set_cons_zero, List.set_cons_succ]
    refine wpAnyL_take (i := 1) (oi := { dst := some 101, op := Op.load 2 (Operand.tmp 100), type := 2, pos := "law.go:236", after := #[{ on := 0, ground := Ground.data }], guard := none }) (v := ?_) (by kernel_rfl) rfl (by kernel_rfl) rfl (by kernel_rfl) (by kernel_rfl) (by kernel_rfl) (fun _ _ _ h => h) (Or.inl ⟨by rfl, ?_⟩) (by assumption) ?_
    rotate_left
    · intro W hSw; obtain ⟨y0, y1, y2, y3, y4⟩ := FQ.out W (step_below HBW.out hSw); go_simp; try with_reducible rfl
    try simp only [Act.put, List.setIfInBounds_toArray, List.set_cons_zero, List.set_cons_succ]
    refine wpAnyL_take (i := 2) (oi := { dst := some 102, op := Op.fieldAddr 39 (Operand.tmp 4) 1, type := 0, pos := "law.go:236", after := #[], guard := none }) (v := ?_) (by kernel_rfl) rfl (by kernel_rfl) rfl (by kernel_rfl) (by kernel_rfl) (by kernel_rfl) (fun _ _ _ h => h) (Or.inl ⟨by rfl, ?_⟩) (by assumption) ?_
    rotate_left
    · intro W hSw; go_simp; try with_reducible rfl
    try simp only [Act.put, List.setIfInBounds_toArray, List.set_cons_zero, List.set_cons_succ]
    refine wpAnyL_take (i := 3) (oi := { dst := some 103, op := Op.load 9 (Operand.tmp 102), type := 9, pos := "law.go:236", after := #[{ on := 2, ground := Ground.data }], guard := none }) (v := ?_) (by kernel_rfl) rfl (by kernel_rfl) rfl (by kernel_rfl) (by kernel_rfl) (by kernel_rfl) (fun _ _ _ h => h) (Or.inl ⟨by rfl, ?_⟩) (by assumption) ?_
    rotate_left
    · intro W hSw; obtain ⟨y0, y1, y2, y3, y4⟩ := FQ.out W (step_below HBW.out hSw); go_simp; try with_reducible rfl
    try simp only [Act.put, List.setIfInBounds_toArray, List.set_cons_zero, List.set_cons_succ]
    refine wpAnyL_take (i := 4) (oi := { dst := some 104, op := Op.fieldAddr 39 (Operand.tmp 4) 2, type := 0, pos := "law.go:236", after := #[], guard := none }) (v := ?_) (by kernel_rfl) rfl (by kernel_rfl) rfl (by kernel_rfl) (by kernel_rfl) (by kernel_rfl) (fun _ _ _ h => h) (Or.inl ⟨by rfl, ?_⟩) (by assumption) ?_
    rotate_left
    · intro W hSw; go_simp; try with_reducible rfl
    try simp only [Act.put, List.setIfInBounds_toArray, List.set_cons_zero, List.set_cons_succ]
    refine wpAnyL_take (i := 5) (oi := { dst := some 105, op := Op.load 2 (Operand.tmp 104), type := 2, pos := "law.go:236", after := #[{ on := 4, ground := Ground.data }], guard := none }) (v := ?_) (by kernel_rfl) rfl (by kernel_rfl) rfl (by kernel_rfl) (by kernel_rfl) (by kernel_rfl) (fun _ _ _ h => h) (Or.inl ⟨by rfl, ?_⟩) (by assumption) ?_
    rotate_left
    · intro W hSw; obtain ⟨y0, y1, y2, y3, y4⟩ := FQ.out W (step_below HBW.out hSw); go_simp; try with_reducible rfl
    try simp only [Act.put, List.setIfInBounds_toArray, List.set_cons_zero, List.set_cons_succ]
    refine wpAnyL_take (i := 6) (oi := { dst := some 106, op := Op.fieldAddr 39 (Operand.tmp 4) 3, type := 0, pos := "law.go:236", after := #[], guard := none }) (v := ?_) (by kernel_rfl) rfl (by kernel_rfl) rfl (by kernel_rfl) (by kernel_rfl) (by kernel_rfl) (fun _ _ _ h => h) (Or.inl ⟨by rfl, ?_⟩) (by assumption) ?_
    rotate_left
    · intro W hSw; go_simp; try with_reducible rfl
    try simp only [Act.put, List.setIfInBounds_toArray, List.set_cons_zero, List.set_cons_succ]
    refine wpAnyL_take (i := 7) (oi := { dst := some 107, op := Op.load 2 (Operand.tmp 106), type := 2, pos := "law.go:236", after := #[{ on := 6, ground := Ground.data }], guard := none }) (v := ?_) (by kernel_rfl) rfl (by kernel_rfl) rfl (by kernel_rfl) (by kernel_rfl) (by kernel_rfl) (fun _ _ _ h => h) (Or.inl ⟨by rfl, ?_⟩) (by assumption) ?_
    rotate_left
    · intro W hSw; obtain ⟨y0, y1, y2, y3, y4⟩ := FQ.out W (step_below HBW.out hSw); go_simp; try with_reducible rfl
    try simp only [Act.put, List.setIfInBounds_toArray, List.set_cons_zero, List.set_cons_succ]
    refine wpAnyL_take (i := 8) (oi := { dst := some 108, op := Op.fieldAddr 39 (Operand.tmp 4) 4, type := 0, pos := "law.go:236", after := #[], guard := none }) (v := ?_) (by kernel_rfl) rfl (by kernel_rfl) rfl (by kernel_rfl) (by kernel_rfl) (by kernel_rfl) (fun _ _ _ h => h) (Or.inl ⟨by rfl, ?_⟩) (by assumption) ?_
    rotate_left
    · intro W hSw; go_simp; try with_reducible rfl
    try simp only [Act.put, List.setIfInBounds_toArray, List.set_cons_zero, List.set_cons_succ]
    refine wpAnyL_take (i := 9) (oi := { dst := some 109, op := Op.load 37 (Operand.tmp 108), type := 37, pos := "law.go:236", after := #[{ on := 8, ground := Ground.data }], guard := none }) (v := ?_) (by kernel_rfl) rfl (by kernel_rfl) rfl (by kernel_rfl) (by kernel_rfl) (by kernel_rfl) (fun _ _ _ h => h) (Or.inl ⟨by rfl, ?_⟩) (by assumption) ?_
    rotate_left
    · intro W hSw; obtain ⟨y0, y1, y2, y3, y4⟩ := FQ.out W (step_below HBW.out hSw); go_simp; try with_reducible rfl
    try simp only [Act.put, List.setIfInBounds_toArray, List.set_cons_zero, List.set_cons_succ]
    refine wpAnyL_ready (rs := [10, 12]) (by kernel_rfl) (by simp) ?_
    refine AllL.cons (o := { dst := some 110, op := Op.call { callee := Callee.builtin Builtin.append, args := #[Operand.const (Value.slice none 0 0), Operand.tmp 109], argTypes := #[37, 37] }, type := 37, pos := "law.go:236", after := #[{ on := 9, ground := Ground.data }], guard := none }) rfl (fun K hK => ?_) ?_
    · skip
      skip
      refine step_append_lps rfl _ _ rfl WA.drew.heap.size (.slice none 0 0) 0 [] rfl (World.ownsRow_nil _ _ _ _) a c n xs HN.out.1 rfl (HR.out.1.below (step_below HB0.out (step_below HBW.out hHeld))) HNL.out.1 (by omega) (Nat.le_refl _) ?_
      intro v9 w9 hown9 hgrow9
      rw [Nat.zero_add, List.nil_append] at hown9
      obtain ⟨a9, c9, rfl⟩ := own_form hown9
      have b9 : Below WA.drew.heap.size WA.drew w9 := (Below.refl _ _).grown hgrow9 (Nat.le_refl _) (fun j hj => by cases hj)
      have hs9 : Below WA.heap.size WA w9 := step_below hHeld b9
      have HO9 := Lib.hid hown9
      refine hK.out _ _ hs9 (fun hHeldn => ?_)
      clear hK K hHeld hown9 hgrow9 b9 hs9; have hHeld := hHeldn; clear hHeldn
      try simp only [Act.put, List.setIfInBounds_toArray, List.set_cons_zero, List.set_cons_succ]
      refine wpAnyL_take (i := 11) (oi := { dst := some 111, op := Op.build 39 #[(0, Operand.tmp 101), (1, Operand.tmp 103), (2, Operand.tmp 105), (3, Operand.tmp 107), (4, Operand.tmp 110)], type := 39, pos := "law.go:236", after := #[{ on := 1, ground := Ground.data }, { on := 3, ground := Ground.data }, { on := 5, ground := Ground.data }, { on := 7, ground := Ground.data }, { on := 10, ground := Ground.data }], guard := none }) (v := ?_) (by kernel_rfl) rfl (by kernel_rfl) rfl (by kernel_rfl) (by kernel_rfl) (by kernel_rfl) (fun _ _ _ h => h) (Or.inl ⟨by rfl, ?_⟩) (by assumption) ?_
      rotate_left
      · intro W hSw; go_simp; try with_reducible rfl
      try simp only [Act.put, List.setIfInBounds_toArray, List.set_cons_zero, List.set_cons_succ]
      refine wpAnyL_ready (rs := [12]) (by kernel_rfl) (by simp) ?_
      refine AllL.cons (o := { dst := some 13, op := Op.alloc 39, type := 0, pos := "law.go:236", after := #[], guard := none }) rfl (fun K hK => ?_) AllL.nil
      go_simp
      obtain ⟨W7, hW7⟩ : ∃ X, w9.alloc (.cells #[.int .i64 0, .string { data := #[] }, .int .i64 0, .int .i64 0, .slice none 0 0] 39) = X := ⟨_, rfl⟩
      have b7 : Below w9.heap.size w9 W7 := by rw [← hW7]; exact bl1 _ _
      obtain ⟨Bx, hBx⟩ : ∃ b, w9.heap.size = b := ⟨_, rfl⟩
      have bx7 : BoxC W7 Bx #[.int .i64 0, .string { data := #[] }, .int .i64 0, .int .i64 0, .slice none 0 0] 39 := by rw [← hW7, ← hBx]; exact BoxC.new _ _ _
      have HZB := Lib.hid (show W1.heap.size ≤ Bx by rw [← hBx]; exact Nat.le_trans HBW.out.size hHeld.size)
      have hs7 : Below WA.heap.size WA W7 := step_below hHeld b7
      try rw [hW7]
      have HBX := Lib.hid bx7
      have HNE := Lib.hid (show (Value.slice a9 n c9).ownBlock ≠ some Bx from fun h => by have := (HO9.out.lt _ h).2; omega)
      have HO9 := Lib.hid (own_below HO9.out b7)
      rw [hBx]
      refine hK.out _ _ hs7 (fun hHeldn => ?_)
      clear hK K hHeld b7 bx7 hs7 hW7 hBx; have hHeld := hHeldn; clear hHeldn
      try simp only [Act.put, List.setIfInBounds_toArray, List.set_cons_zero, List.set_cons_succ]
      refine wpAnyL_ready (rs := [13]) (by kernel_rfl) (by simp) ?_
      refine AllL.last (o := { dst := none, op := Op.store 39 (Operand.tmp 13) (Operand.tmp 111), type := 0, pos := "law.go:236", after := #[{ on := 12, ground := Ground.data }, { on := 11, ground := Ground.data }, { on := 10, ground := Ground.chain }, { on := 0, ground := Ground.phase }, { on := 1, ground := Ground.phase }, { on := 2, ground := Ground.phase }, { on := 3, ground := Ground.phase }, { on := 4, ground := Ground.phase }, { on := 5, ground := Ground.phase }, { on := 6, ground := Ground.phase }, { on := 7, ground := Ground.phase }, { on := 8, ground := Ground.phase }, { on := 9, ground := Ground.phase }, { on := 10, ground := Ground.phase }, { on := 11, ground := Ground.phase }, { on := 12, ground := Ground.phase }], guard := none }) rfl (fun K hK => ?_)
      have x0 := HBX.out.cell 0
      have f0 := HBX.out.frozen 0
      have x1 := HBX.out.cell 1
      have f1 := HBX.out.frozen 1
      have x2 := HBX.out.cell 2
      have f2 := HBX.out.frozen 2
      have x3 := HBX.out.cell 3
      have f3 := HBX.out.frozen 3
      have x4 := HBX.out.cell 4
      have f4 := HBX.out.frozen 4
      simp only [List.getElem?_toArray, List.getElem?_cons_zero, List.getElem?_cons_succ] at x0 x1 x2 x3 x4
      go_simp
      refine hK.out _ _ ?_
      clear hK K x0 x1 x2 x3 x4 f0 f1 f2 f3 f4
      try simp only [Act.put, List.setIfInBounds_toArray, List.set_cons_zero, List.set_cons_succ]
      refine wpAnyL_done (by kernel_rfl) ?_ _
      refine hKK _ _ ?_
      have HX9 := Lib.hid (((((HBX.out.put 0 (.int .i64 g)).put 1 (.string nm)).put 2 (.int .i64 e)).put 3 (.int .i64 f)).put 4 (.slice a9 n c9))
      have hg9 : W7.grownBy (((((W7.setCell ⟨Bx, 0, none⟩ (.int .i64 g)).setCell ⟨Bx, 1, none⟩ (.string nm)).setCell ⟨Bx, 2, none⟩ (.int .i64 e)).setCell ⟨Bx, 3, none⟩ (.int .i64 f)).setCell ⟨Bx, 4, none⟩ (.slice a9 n c9)) (some Bx) := oth_trans (oth_set _ _ _ _) (oth_trans (oth_set _ _ _ _) (oth_trans (oth_set _ _ _ _) (oth_trans (oth_set _ _ _ _) (oth_set _ _ _ _))))
      have HO10 := Lib.hid (HO9.out.kept hg9 (.inr HNE.out))
      have HBF := Lib.hid ((step_below HBW.out hHeld).grown hg9 (step_below HBW.out hHeld).size (fun j hj => by cases hj; exact HZB.out))
      clear hg9 HBX
      generalize ((((W7.setCell ⟨Bx, 0, none⟩ (.int .i64 g)).setCell ⟨Bx, 1, none⟩ (.string nm)).setCell ⟨Bx, 2, none⟩ (.int .i64 e)).setCell ⟨Bx, 3, none⟩ (.int .i64 f)).setCell ⟨Bx, 4, none⟩ (.slice a9 n c9) = W9 at *
      go_meet
      exact ⟨Bx, a9, c9, rfl, HX9, Lib.hid ⟨lps_own HO10.out HN.out.1, own_cap HO10.out, own_nil HO10.out⟩, HBF⟩
    refine AllL.cons (o := { dst := some 13, op := Op.alloc 39, type := 0, pos := "law.go:236", after := #[], guard := none }) rfl (fun K hK => ?_) AllL.nil
    go_simp
    obtain ⟨W7, hW7⟩ : ∃ X, (WA.alloc (.cells #[.int .i64 0, .string { data := #[] }, .int .i64 0, .int .i64 0, .slice none 0 0] 39)).drew = X := ⟨_, rfl⟩
    have b7 : Below WA.heap.size WA W7 := by rw [← hW7]; exact (bl1 _ _).drew
    obtain ⟨Bx, hBx⟩ : ∃ b, WA.drew.heap.size = b := ⟨_, rfl⟩
    have bx7 : BoxC W7 Bx #[.int .i64 0, .string { data := #[] }, .int .i64 0, .int .i64 0, .slice none 0 0] 39 := by rw [← hW7, ← hBx]; exact BoxC.new WA _ _
    have HZB := Lib.hid (show W1.heap.size ≤ Bx by rw [← hBx]; exact Nat.le_trans HBW.out.size hHeld.size)
    have hs7 : Below WA.heap.size WA W7 := b7
    try rw [hW7]
    have BX7 := Lib.hid bx7
    try rw [hBx]
    try rw [show WA.heap.size = Bx from hBx]
    refine hK.out _ _ hs7 (fun hHeldn => ?_)
    clear hK K hHeld b7 bx7 hs7 hW7 hBx; have hHeld := hHeldn; clear hHeldn
    try simp only [Act.put, List.setIfInBounds_toArray, List.set_cons_zero, List.set_cons_succ]
    refine wpAnyL_ready (rs := [10]) (by kernel_rfl) (by simp) ?_
    refine AllL.cons (o := { dst := some 110, op := Op.call { callee := Callee.builtin Builtin.append, args := #[Operand.const (Value.slice none 0 0), Operand.tmp 109], argTypes := #[37, 37] }, type := 37, pos := "law.go:236", after := #[{ on := 9, ground := Ground.data }], guard := none }) rfl (fun K hK => ?_) AllL.nil
    skip
    refine step_append_lps rfl _ _ rfl W7.heap.size (.slice none 0 0) 0 [] rfl (World.ownsRow_nil _ _ _ _) a c n xs HN.out.1 rfl (HR.out.1.below (step_below HB0.out (step_below HBW.out hHeld))) HNL.out.1 (by omega) (Nat.le_refl _) ?_
    intro v9 w9 hown9 hgrow9
    rw [Nat.zero_add, List.nil_append] at hown9
    obtain ⟨a9, c9, rfl⟩ := own_form hown9
    have b9 : Below W7.heap.size W7 w9 := (Below.refl _ _).grown hgrow9 (Nat.le_refl _) (fun j hj => by cases hj)
    have hs9 : Below WA.heap.size WA w9 := step_below hHeld b9
    have HO9 := Lib.hid hown9
    have HBX := Lib.hid (BX7.out.below b9)
    have HNE := Lib.hid (show (Value.slice a9 n c9).ownBlock ≠ some Bx from fun h => by have := (hown9.lt _ h).1; have := BX7.out.lt; omega)
    refine hK.out _ _ hs9 (fun hHeldn => ?_)
    clear hK K hHeld hown9 hgrow9 b9 hs9; have hHeld := hHeldn; clear hHeldn
    try simp only [Act.put, List.setIfInBounds_toArray, List.set_cons_zero, List.set_cons_succ]
    refine wpAnyL_take (i := 11) (oi := { dst := some 111, op := Op.build 39 #[(0, Operand.tmp 101), (1, Operand.tmp 103), (2, Operand.tmp 105), (3, Operand.tmp 107), (4, Operand.tmp 110)], type := 39, pos := "law.go:236", after := #[{ on := 1, ground := Ground.data }, { on := 3, ground := Ground.data }, { on := 5, ground := Ground.data }, { on := 7, ground := Ground.data }, { on := 10, ground := Ground.data }], guard := none }) (v := ?_) (by kernel_rfl) rfl (by kernel_rfl) rfl (by kernel_rfl) (by kernel_rfl) (by kernel_rfl) (fun _ _ _ h => h) (Or.inl ⟨by rfl, ?_⟩) (by assumption) ?_
    rotate_left
    · intro W hSw; go_simp; try with_reducible rfl
    try simp only [Act.put, List.setIfInBounds_toArray, List.set_cons_zero, List.set_cons_succ]
    refine wpAnyL_ready (rs := [13]) (by kernel_rfl) (by simp) ?_
    refine AllL.last (o := { dst := none, op := Op.store 39 (Operand.tmp 13) (Operand.tmp 111), type := 0, pos := "law.go:236", after := #[{ on := 12, ground := Ground.data }, { on := 11, ground := Ground.data }, { on := 10, ground := Ground.chain }, { on := 0, ground := Ground.phase }, { on := 1, ground := Ground.phase }, { on := 2, ground := Ground.phase }, { on := 3, ground := Ground.phase }, { on := 4, ground := Ground.phase }, { on := 5, ground := Ground.phase }, { on := 6, ground := Ground.phase }, { on := 7, ground := Ground.phase }, { on := 8, ground := Ground.phase }, { on := 9, ground := Ground.phase }, { on := 10, ground := Ground.phase }, { on := 11, ground := Ground.phase }, { on := 12, ground := Ground.phase }], guard := none }) rfl (fun K hK => ?_)
    have x0 := HBX.out.cell 0
    have f0 := HBX.out.frozen 0
    have x1 := HBX.out.cell 1
    have f1 := HBX.out.frozen 1
    have x2 := HBX.out.cell 2
    have f2 := HBX.out.frozen 2
    have x3 := HBX.out.cell 3
    have f3 := HBX.out.frozen 3
    have x4 := HBX.out.cell 4
    have f4 := HBX.out.frozen 4
    simp only [List.getElem?_toArray, List.getElem?_cons_zero, List.getElem?_cons_succ] at x0 x1 x2 x3 x4
    go_simp
    refine hK.out _ _ ?_
    clear hK K x0 x1 x2 x3 x4 f0 f1 f2 f3 f4
    try simp only [Act.put, List.setIfInBounds_toArray, List.set_cons_zero, List.set_cons_succ]
    refine wpAnyL_done (by kernel_rfl) ?_ _
    refine hKK _ _ ?_
    have HX9 := Lib.hid (((((HBX.out.put 0 (.int .i64 g)).put 1 (.string nm)).put 2 (.int .i64 e)).put 3 (.int .i64 f)).put 4 (.slice a9 n c9))
    have hg9 : w9.grownBy (((((w9.setCell ⟨Bx, 0, none⟩ (.int .i64 g)).setCell ⟨Bx, 1, none⟩ (.string nm)).setCell ⟨Bx, 2, none⟩ (.int .i64 e)).setCell ⟨Bx, 3, none⟩ (.int .i64 f)).setCell ⟨Bx, 4, none⟩ (.slice a9 n c9)) (some Bx) := oth_trans (oth_set _ _ _ _) (oth_trans (oth_set _ _ _ _) (oth_trans (oth_set _ _ _ _) (oth_trans (oth_set _ _ _ _) (oth_set _ _ _ _))))
    have HO10 := Lib.hid (HO9.out.kept hg9 (.inr HNE.out))
    have HBF := Lib.hid ((step_below HBW.out hHeld).grown hg9 (step_below HBW.out hHeld).size (fun j hj => by cases hj; exact HZB.out))
    clear hg9 HBX
    generalize ((((w9.setCell ⟨Bx, 0, none⟩ (.int .i64 g)).setCell ⟨Bx, 1, none⟩ (.string nm)).setCell ⟨Bx, 2, none⟩ (.int .i64 e)).setCell ⟨Bx, 3, none⟩ (.int .i64 f)).setCell ⟨Bx, 4, none⟩ (.slice a9 n c9) = W9 at *
    go_meet
    exact ⟨Bx, a9, c9, rfl, HX9, Lib.hid ⟨lps_own HO10.out HN.out.1, own_cap HO10.out, own_nil HO10.out⟩, HBF⟩
  case rest =>
  obtain ⟨Bx, a9, c9, rfl, HBX, HX9, HBC⟩ := hcut
  clear e1 e2 e3 HBW
  obtain ⟨W5, rfl⟩ : ∃ Y, Y = wc := ⟨_, rfl⟩
  have HNX := Lib.hid (fun W (b' : Below w.heap.size w W) => next_law g e f fl nm a b c d n m xs ys HSS.out.1 HSS.out.2.1 HSS.out.2.2 HN.out.1 HN.out.2.1 (by omega) HNC.out W (HR.out.1.below b') (HR.out.2.1.below b') HNL.out.1 HNL.out.2)
  have HNY := Lib.hid (fun W (b' : Below w.heap.size w W) (hq : LpsR W a9 xs) => rnext_law g e f fl nm a9 b c9 d n m xs ys HSS.out.1 HSS.out.2.1 HSS.out.2.2 HN.out.1 HN.out.2.1 (by omega) HX9.out.2.1 W hq (HR.out.2.1.below b') HX9.out.2.2 HNL.out.2)
  have HVL := Lib.hid (show (nxV (manB g e f nm xs || zerB g e f nm n) g e (if f < fl then fl else f) nm (keepL e (xs ++ ys))).1.2.2.2.2.length ≤ 1000000 from Nat.le_trans (nxV_len _ _ _ _ _ _) (Nat.le_trans (keepL_len _ _) (by rw [List.length_append, HN.out.1, HN.out.2.1]; omega)))
  generalize nxV (manB g e f nm xs || zerB g e f nm n) g e (if f < fl then fl else f) nm (keepL e (xs ++ ys)) = V at HNX HNY HVL
  obtain ⟨⟨vg, vn, ve, vf, VL⟩, ver⟩ := V
  have HZX := Lib.hid (fun W (b' : Below w.heap.size w W) => needless_law g e f nm a an c cn n p xs ns HSS.out.1 HSS.out.2.1 HN.out.1 HN.out.2.2 (by omega) (by omega) HNC.out W (HTB.out.below b') (HR.out.1.below b') (HR.out.2.2.below b'))
  have HZY := Lib.hid (fun W (b' : Below w.heap.size w W) (hq : LpsR W a9 xs) => rneedless_law g e f nm a9 an c9 cn n p xs ns HSS.out.1 HSS.out.2.1 HN.out.1 HN.out.2.2 (by omega) (by omega) W (HTB.out.below b') hq (HR.out.2.2.below b'))
  have HUL := Lib.hid (show (nlV (manB g e f nm xs) g nm xs ns).1.length ≤ 1000000 from Nat.le_trans (nlV_len _ _ _ _ _) (by rw [HN.out.2.2]; omega))
  generalize nlV (manB g e f nm xs) g nm xs ns = U at HZX HZY HUL
  obtain ⟨UL, uer⟩ := U
  have q1 : (ver == ver) = true := by simp
  have q2 : (uer == uer) = true := by simp
  obtain ⟨y0, y1, y2, y3, y4⟩ := FQ.out W5 HBC.out
  go_wp2_with fail
  refine ((HNX.out _ (step_below HB0.out HBC.out)).mono (fun _ _ h => NxR_open h)).mono ?_
  rintro r w6 ⟨a6, c6, l6, rfl, hr6, hl6, hb6⟩
  clear y0 y1 y2 y3 y4
  go_upto_region 18 with (fail)
  obtain ⟨W7, hW7⟩ : ∃ X, w6.alloc (.cells #[.int .i64 vg, .string vn, .int .i64 ve, .int .i64 vf, .slice a6 l6 c6] 39) = X := ⟨_, rfl⟩
  have hb7 : Below w6.heap.size w6 W7 := by rw [← hW7]; exact bl1 _ _
  have BX6 := Lib.hid (show BoxC W7 w6.heap.size #[.int .i64 vg, .string vn, .int .i64 ve, .int .i64 vf, .slice a6 l6 c6] 39 by rw [← hW7]; exact BoxC.new _ _ _)
  try rw [hW7]
  have HR6 := Lib.hid (hr6.below hb7)
  have HL6 := Lib.hid hl6
  have HB7 := Lib.hid (step_below HBC.out (step_below hb6 hb7))
  have HBX7 := Lib.hid (HBX.out.below (step_below hb6 hb7))
  have HX7 := Lib.hid (HX9.out.1.below (step_below hb6 hb7))
  clear hW7 hb7 hb6 hr6 hl6
  have y0 := HBX7.out.cell 0
  have y1 := HBX7.out.cell 1
  have y2 := HBX7.out.cell 2
  have y3 := HBX7.out.cell 3
  have y4 := HBX7.out.cell 4
  simp at y0 y1 y2 y3 y4
  go_wp2_with fail
  refine ((HNY.out _ (step_below HB0.out HB7.out) HX7.out).mono (fun _ _ h => NxR_open h)).mono ?_
  rintro r w8 ⟨a8, c8, l8, rfl, hr8, hl8, hb8⟩
  clear y0 y1 y2 y3 y4
  go_upto_region 19 with (fail)
  obtain ⟨W9, hW9⟩ : ∃ X, w8.alloc (.cells #[.int .i64 vg, .string vn, .int .i64 ve, .int .i64 vf, .slice a8 l8 c8] 39) = X := ⟨_, rfl⟩
  have hb9 : Below w8.heap.size w8 W9 := by rw [← hW9]; exact bl1 _ _
  have BX8 := Lib.hid (show BoxC W9 w8.heap.size #[.int .i64 vg, .string vn, .int .i64 ve, .int .i64 vf, .slice a8 l8 c8] 39 by rw [← hW9]; exact BoxC.new _ _ _)
  try rw [hW9]
  have HR8 := Lib.hid (hr8.below hb9)
  have HL8 := Lib.hid hl8
  have HB9 := Lib.hid (step_below HB7.out (step_below hb8 hb9))
  have HBX9 := Lib.hid (HBX7.out.below (step_below hb8 hb9))
  have HX9' := Lib.hid (HX7.out.below (step_below hb8 hb9))
  have BX6' := Lib.hid (BX6.out.below (step_below hb8 hb9))
  have HR6' := Lib.hid (HR6.out.below (step_below hb8 hb9))
  clear hW9 hb9 hb8 hr8 hl8 BX6 HR6 HBX7 HX7 HB7
  obtain ⟨y0, y1, y2, y3, y4⟩ := FQ.out W9 HB9.out
  go_wp2_with fail
  refine ((HZX.out _ (step_below HB0.out HB9.out)).mono (fun _ _ h => NlR_open h)).mono ?_
  rintro r w10 ⟨a10, c10, l10, rfl, hr10, hl10, hb10⟩
  have HR10 := Lib.hid hr10
  have HL10 := Lib.hid hl10
  have HB10 := Lib.hid hb10
  clear y0 y1 y2 y3 y4 hr10 hl10 hb10
  have y0 := (HBX9.out.below HB10.out).cell 0
  have y1 := (HBX9.out.below HB10.out).cell 1
  have y2 := (HBX9.out.below HB10.out).cell 2
  have y3 := (HBX9.out.below HB10.out).cell 3
  have y4 := (HBX9.out.below HB10.out).cell 4
  simp at y0 y1 y2 y3 y4
  go_wp2_with fail
  refine ((HZY.out _ (step_below HB0.out (step_below HB9.out HB10.out)) (HX9'.out.below HB10.out)).mono (fun _ _ h => NlR_open h)).mono ?_
  rintro r w11 ⟨a11, c11, l11, rfl, hr11, hl11, hb11⟩
  have HR11 := Lib.hid hr11
  have HL11 := Lib.hid hl11
  have HR10' := Lib.hid (HR10.out.below hb11)
  have HB11 := Lib.hid (step_below HB10.out hb11)
  clear y0 y1 y2 y3 y4 hr11 hl11 hb11 HR10 HB10
  obtain rfl : l8 = l6 := HL8.out.symm.trans HL6.out
  obtain rfl : l11 = l10 := HL11.out.symm.trans HL10.out
  have x0 := (BX6'.out.below HB11.out).cell 0
  have x1 := (BX6'.out.below HB11.out).cell 1
  have x2 := (BX6'.out.below HB11.out).cell 2
  have x3 := (BX6'.out.below HB11.out).cell 3
  have x4 := (BX6'.out.below HB11.out).cell 4
  have z0 := (BX8.out.below HB11.out).cell 0
  have z1 := (BX8.out.below HB11.out).cell 1
  have z2 := (BX8.out.below HB11.out).cell 2
  have z3 := (BX8.out.below HB11.out).cell 3
  have z4 := (BX8.out.below HB11.out).cell 4
  simp at x0 x1 x2 x3 x4 z0 z1 z2 z3 z4
  go_wp2_with fail
  refine (rsameman_eq vg ve vf vn a6 a8 VL _ c6 c8 HL6.out (by rw [← HL6.out]; exact HVL.out) _ (HR6'.out.below HB11.out) (HR8.out.below HB11.out)).mono ?_
  rintro r w12 ⟨rfl, hb12⟩
  have HB12 := Lib.hid hb12
  clear x0 x1 x2 x3 x4 z0 z1 z2 z3 z4 hb12
  go_wp2_with fail
  refine (num_law _ _).mono ?_; rintro r w13 ⟨rfl, rfl⟩
  go_wp2_with fail
  refine (texts_eq a10 a11 UL _ c10 c11 HL10.out (by rw [← HL10.out]; exact HUL.out) _ (HR10'.out.below HB12.out) (HR11.out.below HB12.out)).mono ?_
  rintro r w14 ⟨rfl, hb14⟩
  have HB14 := Lib.hid (step_below HB11.out (step_below HB12.out hb14))
  clear hb14
  go_wp2_with fail
  refine (num_law _ _).mono ?_; rintro r w15 ⟨rfl, rfl⟩
  obtain ⟨y0, y1, y2, y3, y4⟩ := FQ.out _ (step_below HB9.out HB14.out)
  have z0 := (HBX9.out.below HB14.out).cell 0
  have z1 := (HBX9.out.below HB14.out).cell 1
  have z2 := (HBX9.out.below HB14.out).cell 2
  have z3 := (HBX9.out.below HB14.out).cell 3
  have z4 := (HBX9.out.below HB14.out).cell 4
  simp at z0 z1 z2 z3 z4
  go_wp2_with fail
  refine (rsameman_eq g e f nm a a9 xs n c c9 HN.out.1 (by omega) _ (HR.out.1.below (step_below HB0.out (step_below HB9.out HB14.out))) (HX9'.out.below HB14.out)).mono ?_
  rintro r w16 ⟨rfl, hb16⟩
  have HB16 := Lib.hid (step_below HB0.out (step_below HB9.out (step_below HB14.out hb16)))
  clear y0 y1 y2 y3 y4 z0 z1 z2 z3 z4 hb16
  go_wp2_with fail
  refine (known_law _).mono ?_; rintro r w17 ⟨rfl, hb17⟩
  have HB17 := Lib.hid (step_below HB16.out hb17)
  clear hb17
  go_wp2_with fail
  go_ret
  exact ⟨rfl, HB17.out⟩
end Go.Proofs.YtglkndoghnblcaaGreatDoor
