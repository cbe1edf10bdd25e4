/- Disks: one step: Copy; any step. -/
import Derived.Test.YtbjhcbiihekceaaDg6
import Derived.Lib.SlBytesConst
namespace Go.Proofs.Ytbjhcbiihekceaa
open Go.ChangeShapes Go.WideShapes Go.ChangeAt Go.RowKit Go.Maps Go.Shelf
set_option linter.unusedVariables false
set_option linter.unusedSimpArgs false
theorem dstep {w : World} {p bm room : Nat} {C C1 : List CF} {S : Nat → Prop} (h : DC w p bm room C S) (hS : ∀ k, w.heap.size ≤ k → S k) {f : FuncId} {args : Array Value} {R : Ending → Prop}
    (hc : Calls Try.prog f args w fun e w' => R e ∧ Aft w w' p bm room C1 S) : Calls Try.prog f args w fun e w' => R e ∧ DC w' p bm room C1 S ∧ Off S w w' := by
  refine hc.mono ?_
  rintro e w' ⟨a, b, c⟩
  exact ⟨a, b.mono fun k hk _ => hk.elim id (hS k), c⟩
theorem same_self {w : World} {p bm room p2 bm2 : Nat} {C : List CF} {O O2 : Nat → Prop} (h : DC w p bm room C O) (h2 : DC w p2 bm2 room C O2) :
    Calls Try.prog 19 #[.pointer (some ⟨p, 0, none⟩), .pointer (some ⟨p2, 0, none⟩)] w fun e w' => e = .returned (.bool true) ∧ Below w.heap.size w w' := by
  refine (c_same h h2).mono ?_
  rintro e w' ⟨he, hb⟩
  exact ⟨he.trans (congrArg (fun b => Ending.returned (.bool b)) (decide_eq_true ⟨rfl, rfl⟩)), hb⟩
set_option maxRecDepth 100000 in
set_option maxHeartbeats 4000000 in
theorem do_6 {w : World} {p bm q room : Nat} {C : List CF} {S : Nat → Prop} (h : Two w p bm q room C C S) (hS : ∀ k, w.heap.size ≤ k → S k) (sA sB : ByteArray) (da ka : Option Addr) (dn dc kn kc : Nat) :
    Calls Try.prog 17 #[.pointer (some ⟨p, 0, none⟩), .pointer (some ⟨q, 0, none⟩), .agg #[.int .i64 6, .string sA, .string sB, .slice da dn dc, .slice ka kn kc]] w (DoR w room S) := by
  have HF := Lib.hid h.fine
  have H := Lib.hid h
  have HS0 := Lib.hid hS
  clear h hS
  have kc2 := fun (w : World) (C : Array Value) (n c : Nat) => Lib.run_convert_bytes_const (P := Try.prog) w 34 5 C n c Try.underlying34 Try.underlying5
  go_enter Try.func17, Try.ntmps17
  go_wp2_with fail
  obtain ⟨W0, hW0⟩ : ∃ W0, w.alloc (.cells #[.int .i64 6, .string sA, .string sB, .slice da dn dc, .slice ka kn kc] 37) = W0 := ⟨_, rfl⟩
  have hb0 : Below w.heap.size w W0 := by rw [← hW0]; exact bl1 _ _
  have bx : BoxC W0 w.heap.size #[.int .i64 6, .string sA, .string sB, .slice da dn dc, .slice ka kn kc] 37 := by rw [← hW0]; exact BoxC.new w _ 37
  have hs0 : w.heap.size + 1 ≤ W0.heap.size := by rw [← hW0, World.size_alloc]; omega
  try rw [hW0]
  clear hW0
  obtain ⟨O, O', hd, hr, hap, hOS, hOS'⟩ := H.out
  have HD := Lib.hid (hd.below hb0)
  have HR := Lib.hid (hr.below hb0)
  have HB0 := Lib.hid hb0
  have HAP := Lib.hid (And.intro hap (And.intro hOS hOS'))
  have HLT := Lib.hid (And.intro (hd.mono (O' := fun k => O k ∧ k < w.heap.size) fun k hk h => ⟨hk, h⟩) (hr.mono (O' := fun k => O' k ∧ k < w.heap.size) fun k hk h => ⟨hk, h⟩))
  clear hd hr hb0 bx hap hOS hOS'
  try go_wp2_with fail
  refine (c_copy HD.out).mono ?_
  rintro e w1 ⟨rfl, hdc, hb1⟩
  have HC1 := Lib.hid (hdc.mono (O' := fun k => W0.heap.size ≤ k ∧ k < w1.heap.size) fun k hk h => ⟨hk, h⟩)
  have HD1 := Lib.hid (HD.out.below hb1)
  have HB1 := Lib.hid (step_below HB0.out hb1)
  have hs1 : W0.heap.size ≤ w1.heap.size := hb1.size
  clear hdc hb1 HD HR
  go_wp2_with fail
  refine (same_self HC1.out HD1.out).mono ?_
  rintro e w2 ⟨rfl, hb2⟩
  have HB2 := Lib.hid (step_below HB1.out hb2)
  have HC2 := Lib.hid (HC1.out.below hb2)
  have hs2 : w1.heap.size ≤ w2.heap.size := hb2.size
  obtain ⟨Sd, hSd⟩ : ∃ Sd : Nat → Prop, Sd = fun k => (O k ∧ k < w.heap.size) ∨ w2.heap.size ≤ k := ⟨_, rfl⟩
  have HSD := Lib.hid hSd
  have HUP := Lib.hid (show ∀ k, w2.heap.size ≤ k → Sd k by rw [hSd]; exact fun k hk => Or.inr hk)
  have HD2 := Lib.hid (show DC w2 p bm room C Sd by rw [hSd]; exact (HLT.out.1.below HB2.out).mono fun k hk _ => Or.inl hk)
  clear hb2 hSd HC1 HD1
  go_wp2_with fail
  refine (dstep (HD2.out.below (bl1 _ _)) (fun k hk => HUP.out k (by rw [World.size_alloc] at hk; omega)) (R := fun e => e = .returned (.int .i64 _)) (c_append (HD2.out.below (bl1 _ _)) ⟨#[97]⟩ (by decide) _ 2 _ [122, 122] rfl (by decide) (by unfold Byt; decide) (ls_new .u8 _ [122, 122] _ _ _ rfl 2 rfl))).mono ?_
  rintro e w3 ⟨rfl, hd3, ho3⟩
  have HO3 := Lib.hid ((Off.of (S := Sd) (bl1 w2 _)).trans ho3)
  have HD3 := Lib.hid hd3
  clear hd3 ho3 HD2
  go_wp2_with fail
  refine (dstep HD3.out (fun k hk => HUP.out k (Nat.le_trans HO3.out.size hk)) (R := fun e => e = .returned (.int .i64 _)) (c_sync HD3.out ⟨#[97]⟩ (by decide))).mono ?_
  rintro e w4 ⟨rfl, hd4, ho4⟩
  have HO4 := Lib.hid (HO3.out.trans ho4)
  have HD4 := Lib.hid hd4
  clear hd4 ho4 HD3 HO3
  go_wp2_with fail
  refine (dstep HD4.out (fun k hk => HUP.out k (Nat.le_trans HO4.out.size hk)) (R := fun e => e = .returned (.int .i64 _)) (c_remove HD4.out ⟨#[98]⟩ (by decide))).mono ?_
  rintro e w5 ⟨rfl, hd5, ho5⟩
  have HO5 := Lib.hid (HO4.out.trans ho5)
  clear hd5 ho5 HD4 HO4
  go_wp2_with fail
  refine bodyPost_ret (v := .tuple #[.pointer (some ⟨W0.heap.size + 1, 0, none⟩), .pointer (some ⟨q, 0, none⟩), .bool true]) (by simp [results, Try.f17, go_sem]) rfl ?_
  have hsd := HSD.out
  refine ⟨W0.heap.size + 1, W0.heap.size, q, C, rfl, ⟨fun k => W0.heap.size ≤ k ∧ k < w1.heap.size, fun k => O' k ∧ k < w.heap.size, HC2.out.off HO5.out (fun k _ hk => ?_), (HLT.out.2.below HB2.out).off HO5.out (fun k _ hk => ?_), fun k hk h => ?_, fun k hk => HS0.out k ?_, fun k hk => HAP.out.2.2 k hk.1⟩, (Off.of HB2.out).trans (HO5.out.mono fun k hk => ?_)⟩
  · rw [hsd]; rintro (⟨_, h⟩ | h) <;> omega
  · rw [hsd]; rintro (⟨h1, h⟩ | h)
    · exact HAP.out.1 k h1 hk.1
    · have := HB2.out.size; omega
  · omega
  · omega
  · rw [hsd] at hk
    rcases hk with ⟨h, _⟩ | h
    · exact HAP.out.2.1 k h
    · have := HB2.out.size; exact HS0.out k (by omega)
set_option maxRecDepth 100000 in
set_option maxHeartbeats 4000000 in
theorem do_0 {w : World} {p bm q room : Nat} {C : List CF} {S : Nat → Prop} (h : Two w p bm q room C C S) (kd : Int) (h1 : kd ≠ 1) (h2 : kd ≠ 2) (h3 : kd ≠ 3) (h4 : kd ≠ 4) (h5 : kd ≠ 5) (h6 : kd ≠ 6) (sA sB : ByteArray) (da ka : Option Addr) (dn dc kn kc : Nat) :
    Calls Try.prog 17 #[.pointer (some ⟨p, 0, none⟩), .pointer (some ⟨q, 0, none⟩), .agg #[.int .i64 kd, .string sA, .string sB, .slice da dn dc, .slice ka kn kc]] w (DoR w room S) := by
  have H := Lib.hid h
  have d1 : (kd == 1) = false := by simpa using h1
  have d2 : (kd == 2) = false := by simpa using h2
  have d3 : (kd == 3) = false := by simpa using h3
  have d4 : (kd == 4) = false := by simpa using h4
  have d5 : (kd == 5) = false := by simpa using h5
  have d6 : (kd == 6) = false := by simpa using h6
  clear h
  go_enter Try.func17, Try.ntmps17
  go_wp2_with fail
  refine bodyPost_ret (v := .tuple #[.pointer (some ⟨p, 0, none⟩), .pointer (some ⟨q, 0, none⟩), .bool true]) (by simp [results, Try.f17, go_sem]) rfl ?_
  exact ⟨p, bm, q, C, rfl, H.out.below (bl1 _ _), Off.of (bl1 _ _)⟩
/-- A step, as it lies; no block of S is its own. -/
structure StepAt (W : World) (S : Nat → Prop) (v : Value) : Prop where
  ex : ∃ (kd : Int) (sA sB : ByteArray) (da ka : Option Addr) (dn dc kn kc : Nat) (D : List Int) (ks : List (ByteArray × Int)), v = .agg #[.int .i64 kd, .string sA, .string sB, .slice da dn dc, .slice ka kn kc] ∧ sA.size ≤ maxLen ∧ sB.size ≤ maxLen ∧
    D.length = dn ∧ dn ≤ 300000 ∧ Byt D ∧ Ls .u8 W da dc D ∧ (∀ b, da = some b → 0 < dn → ¬ S b.block) ∧ ks.length = kn ∧ Kps W ka ks ∧ (∀ k ∈ ks, k.1.size ≤ maxLen) ∧ kn ≤ 1000000
/-- do (17). -/
theorem c_do {w : World} {p bm q room : Nat} {C : List CF} {S : Nat → Prop} (h : Two w p bm q room C C S) (hS : ∀ k, w.heap.size ≤ k → S k) (v : Value) (hv : StepAt w S v) :
    Calls Try.prog 17 #[.pointer (some ⟨p, 0, none⟩), .pointer (some ⟨q, 0, none⟩), v] w (DoR w room S) := by
  obtain ⟨kd, sA, sB, da, ka, dn, dc, kn, kc, D, ks, rfl, hA, hB, hDn, hdn, hDB, hLD, hda, hkn, hK, hKs, hKl⟩ := hv.ex
  by_cases h1 : kd = 1
  · subst h1; exact do_1 h hS sA sB hA da ka dn dc kn kc D hDn hdn hDB hLD hda
  by_cases h2 : kd = 2
  · subst h2; exact do_2 h hS sA sB hA hB da ka dn dc kn kc
  by_cases h3 : kd = 3
  · subst h3; exact do_3 h hS sA sB hA hB da ka dn dc kn kc
  by_cases h4 : kd = 4
  · subst h4; exact do_4 h hS sA sB hA hB da ka dn dc kn kc
  by_cases h5 : kd = 5
  · subst h5; exact do_5 h hS sA sB da ka dn dc kn kc ks hkn hK hKs hKl
  by_cases h6 : kd = 6
  · subst h6; exact do_6 h hS sA sB da ka dn dc kn kc
  exact do_0 h kd h1 h2 h3 h4 h5 h6 sA sB da ka dn dc kn kc
end Go.Proofs.Ytbjhcbiihekceaa
