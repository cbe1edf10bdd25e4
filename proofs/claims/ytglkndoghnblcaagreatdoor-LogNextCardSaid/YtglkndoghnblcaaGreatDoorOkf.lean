/- known: the chapter's rows. Part 6. -/
import Derived.Test.YtglkndoghnblcaaGreatDoorOke
namespace Go.Proofs.YtglkndoghnblcaaGreatDoor
open Go.ChangeShapes Go.WideShapes Go.ChangeAt Go.RowKit
set_option linter.unusedVariables false
set_option linter.unusedSimpArgs false
set_option maxRecDepth 100000 in
set_option maxHeartbeats 4000000 in
/-- read's deferred function, where something gave up (145). -/
theorem catchmn_panic (b4 b5 N : Nat) (w : World) (y : Int) (o0 : Int) (o1 : ByteArray) (o2 : Int) (o3 : Int) (o4a : Option Addr) (o4n o4c : Nat) (x4 : BoxC w b4 #[.int .i64 o0, .string o1, .int .i64 o2, .int .i64 o3, .slice o4a o4n o4c] 39) (x5 : BoxC w b5 #[.int .i64 y] 26) (hne : b4 ≠ b5) (h4 : N ≤ b4) (h5 : N ≤ b5) :
    CallsD Tryz.prog 110 #[.pointer (some ⟨b4, 0, none⟩), .pointer (some ⟨b5, 0, none⟩)] (.panicking badP) w fun e u' w' => e = .returned (.tuple #[]) ∧ u' = .panicking caughtP ∧ BoxC w' b4 #[.int .i64 0, .string { data := #[] }, .int .i64 0, .int .i64 0, .slice none 0 0] 39 ∧ BoxC w' b5 #[.int .i64 4] 26 ∧ Below N w w' := by
  have hl4 := x4.lt
  have hl5 := x5.lt
  refine callsD_of_wpS Tryz.func110 rfl fun c₀ cs hu => ?_
  apply wpS_seq
  apply wpS_region
  simp [wpOpsS, go_sem, recoverD, hu, Tryz.ntmps110, Exit.thenS, badP]
  refine wpS_of_wp ?_
  go_upto_region 3 with (fail)
  obtain ⟨W1, hW1⟩ : ∃ W1, w.alloc (.cells #[.int .i64 0, .string { data := #[] }, .int .i64 0, .int .i64 0, .slice none 0 0] 39) = W1 := ⟨_, rfl⟩
  have hb : Below w.heap.size w W1 := by rw [← hW1]; exact bl1 _ _
  have bx : BoxC W1 w.heap.size #[.int .i64 0, .string { data := #[] }, .int .i64 0, .int .i64 0, .slice none 0 0] 39 := by rw [← hW1]; exact BoxC.new _ _ _
  try rw [hW1]
  clear hW1
  have z4 := x4.below hb
  have z5 := x5.below hb
  have c0 := z4.cell 0
  have f0 := z4.frozen 0
  have q0 := bx.cell 0
  have c1 := z4.cell 1
  have f1 := z4.frozen 1
  have q1 := bx.cell 1
  have c2 := z4.cell 2
  have f2 := z4.frozen 2
  have q2 := bx.cell 2
  have c3 := z4.cell 3
  have f3 := z4.frozen 3
  have q3 := bx.cell 3
  have c4 := z4.cell 4
  have f4 := z4.frozen 4
  have q4 := bx.cell 4
  have d0 := z5.cell 0
  have g0 := z5.frozen 0
  simp only [List.getElem?_toArray, List.getElem?_cons_zero, List.getElem?_cons_succ] at c0 c1 c2 c3 c4 d0 q0 q1 q2 q3 q4
  have X4 := Lib.hid (BoxC.oth (i := 0) (v := .int .i64 4) (Ne.symm hne) (((((z4.put 0 (.int .i64 0)).put 1 (.string { data := #[] })).put 2 (.int .i64 0)).put 3 (.int .i64 0)).put 4 (.slice none 0 0)))
  have X5 := Lib.hid ((BoxC.oth (i := 4) (v := .slice none 0 0) hne (BoxC.oth (i := 3) (v := .int .i64 0) hne (BoxC.oth (i := 2) (v := .int .i64 0) hne (BoxC.oth (i := 1) (v := .string { data := #[] }) hne (BoxC.oth (i := 0) (v := .int .i64 0) hne z5))))).put 0 (.int .i64 4))
  have HB := Lib.hid (((((((hb.mono (show N ≤ w.heap.size by omega)).setCell (p := ⟨b4, 0, none⟩) h4 (.int .i64 0)).setCell (p := ⟨b4, 1, none⟩) h4 (.string { data := #[] })).setCell (p := ⟨b4, 2, none⟩) h4 (.int .i64 0)).setCell (p := ⟨b4, 3, none⟩) h4 (.int .i64 0)).setCell (p := ⟨b4, 4, none⟩) h4 (.slice none 0 0)).setCell (p := ⟨b5, 0, none⟩) h5 (.int .i64 4))
  clear x4 x5 hb bx z4 z5
  go_wp2
  generalize ((((((W1.setCell ⟨b4, 0, none⟩ (.int .i64 0)).setCell ⟨b4, 1, none⟩ (.string { data := #[] })).setCell ⟨b4, 2, none⟩ (.int .i64 0)).setCell ⟨b4, 3, none⟩ (.int .i64 0)).setCell ⟨b4, 4, none⟩ (.slice none 0 0)).setCell ⟨b5, 0, none⟩ (.int .i64 4)) = W9 at *
  have Y4 : BoxC W9 b4 #[.int .i64 0, .string { data := #[] }, .int .i64 0, .int .i64 0, .slice none 0 0] 39 := X4.out
  have Y5 : BoxC W9 b5 #[.int .i64 4] 26 := X5.out
  have YB := HB.out
  simp [bodyPostS, results, Tryz.results110, caughtP]
  exact ⟨Y4, Y5, YB⟩
set_option maxRecDepth 100000 in
set_option maxHeartbeats 4000000 in
/-- read's deferred function, where nothing gave up (145). -/
theorem catchmn_idle (b4 b5 : Nat) (w : World) :
    CallsD Tryz.prog 110 #[.pointer (some ⟨b4, 0, none⟩), .pointer (some ⟨b5, 0, none⟩)] .returning w fun e u' w' => e = .returned (.tuple #[]) ∧ u' = .returning ∧ w' = w := by
  refine callsD_of_wpS Tryz.func110 rfl fun c₀ cs hu => ?_
  apply wpS_seq
  apply wpS_region
  simp [wpOpsS, go_sem, recoverD, hu, Tryz.ntmps110, Exit.thenS]
  refine wpS_of_wp ?_
  go_wp2
  cases c₀
  simp_all [bodyPostS, results, Tryz.results110]
set_option maxRecDepth 100000 in
set_option maxHeartbeats 4000000 in
/-- read's deferred function, where something gave up (134). -/
theorem catchhd_panic (b4 b5 N : Nat) (w : World) (y : Int) (o0 : Int) (o1a : Option Addr) (o1n o1c : Nat) (x4 : BoxC w b4 #[.int .i64 o0, .slice o1a o1n o1c] 131) (x5 : BoxC w b5 #[.int .i64 y] 26) (hne : b4 ≠ b5) (h4 : N ≤ b4) (h5 : N ≤ b5) :
    CallsD Tryz.prog 122 #[.pointer (some ⟨b4, 0, none⟩), .pointer (some ⟨b5, 0, none⟩)] (.panicking badP) w fun e u' w' => e = .returned (.tuple #[]) ∧ u' = .panicking caughtP ∧ BoxC w' b4 #[.int .i64 0, .slice none 0 0] 131 ∧ BoxC w' b5 #[.int .i64 4] 26 ∧ Below N w w' := by
  have hl4 := x4.lt
  have hl5 := x5.lt
  refine callsD_of_wpS Tryz.func122 rfl fun c₀ cs hu => ?_
  apply wpS_seq
  apply wpS_region
  simp [wpOpsS, go_sem, recoverD, hu, Tryz.ntmps122, Exit.thenS, badP]
  refine wpS_of_wp ?_
  go_upto_region 3 with (fail)
  obtain ⟨W1, hW1⟩ : ∃ W1, w.alloc (.cells #[.int .i64 0, .slice none 0 0] 131) = W1 := ⟨_, rfl⟩
  have hb : Below w.heap.size w W1 := by rw [← hW1]; exact bl1 _ _
  have bx : BoxC W1 w.heap.size #[.int .i64 0, .slice none 0 0] 131 := by rw [← hW1]; exact BoxC.new _ _ _
  try rw [hW1]
  clear hW1
  have z4 := x4.below hb
  have z5 := x5.below hb
  have c0 := z4.cell 0
  have f0 := z4.frozen 0
  have q0 := bx.cell 0
  have c1 := z4.cell 1
  have f1 := z4.frozen 1
  have q1 := bx.cell 1
  have d0 := z5.cell 0
  have g0 := z5.frozen 0
  simp only [List.getElem?_toArray, List.getElem?_cons_zero, List.getElem?_cons_succ] at c0 c1 d0 q0 q1
  have X4 := Lib.hid (BoxC.oth (i := 0) (v := .int .i64 4) (Ne.symm hne) ((z4.put 0 (.int .i64 0)).put 1 (.slice none 0 0)))
  have X5 := Lib.hid ((BoxC.oth (i := 1) (v := .slice none 0 0) hne (BoxC.oth (i := 0) (v := .int .i64 0) hne z5)).put 0 (.int .i64 4))
  have HB := Lib.hid ((((hb.mono (show N ≤ w.heap.size by omega)).setCell (p := ⟨b4, 0, none⟩) h4 (.int .i64 0)).setCell (p := ⟨b4, 1, none⟩) h4 (.slice none 0 0)).setCell (p := ⟨b5, 0, none⟩) h5 (.int .i64 4))
  clear x4 x5 hb bx z4 z5
  go_wp2
  generalize (((W1.setCell ⟨b4, 0, none⟩ (.int .i64 0)).setCell ⟨b4, 1, none⟩ (.slice none 0 0)).setCell ⟨b5, 0, none⟩ (.int .i64 4)) = W9 at *
  have Y4 : BoxC W9 b4 #[.int .i64 0, .slice none 0 0] 131 := X4.out
  have Y5 : BoxC W9 b5 #[.int .i64 4] 26 := X5.out
  have YB := HB.out
  simp [bodyPostS, results, Tryz.results122, caughtP]
  exact ⟨Y4, Y5, YB⟩
set_option maxRecDepth 100000 in
set_option maxHeartbeats 4000000 in
/-- read's deferred function, where nothing gave up (134). -/
theorem catchhd_idle (b4 b5 : Nat) (w : World) :
    CallsD Tryz.prog 122 #[.pointer (some ⟨b4, 0, none⟩), .pointer (some ⟨b5, 0, none⟩)] .returning w fun e u' w' => e = .returned (.tuple #[]) ∧ u' = .returning ∧ w' = w := by
  refine callsD_of_wpS Tryz.func122 rfl fun c₀ cs hu => ?_
  apply wpS_seq
  apply wpS_region
  simp [wpOpsS, go_sem, recoverD, hu, Tryz.ntmps122, Exit.thenS]
  refine wpS_of_wp ?_
  go_wp2
  cases c₀
  simp_all [bodyPostS, results, Tryz.results122]
set_option maxRecDepth 100000 in
set_option maxHeartbeats 4000000 in
/-- read's deferred function, where something gave up (137). -/
theorem catchpl_panic (b4 b5 N : Nat) (w : World) (y : Int) (o0 : Int) (o1a : Option Addr) (o1n o1c : Nat) (o2a : Option Addr) (o2n o2c : Nat) (o3 : Int) (o4 : Int) (x4 : BoxC w b4 #[.int .i64 o0, .slice o1a o1n o1c, .slice o2a o2n o2c, .int .i64 o3, .int .i64 o4] 137) (x5 : BoxC w b5 #[.int .i64 y] 26) (hne : b4 ≠ b5) (h4 : N ≤ b4) (h5 : N ≤ b5) :
    CallsD Tryz.prog 125 #[.pointer (some ⟨b4, 0, none⟩), .pointer (some ⟨b5, 0, none⟩)] (.panicking badP) w fun e u' w' => e = .returned (.tuple #[]) ∧ u' = .panicking caughtP ∧ BoxC w' b4 #[.int .i64 0, .slice none 0 0, .slice none 0 0, .int .i64 0, .int .i64 0] 137 ∧ BoxC w' b5 #[.int .i64 4] 26 ∧ Below N w w' := by
  have hl4 := x4.lt
  have hl5 := x5.lt
  refine callsD_of_wpS Tryz.func125 rfl fun c₀ cs hu => ?_
  apply wpS_seq
  apply wpS_region
  simp [wpOpsS, go_sem, recoverD, hu, Tryz.ntmps125, Exit.thenS, badP]
  refine wpS_of_wp ?_
  go_upto_region 3 with (fail)
  obtain ⟨W1, hW1⟩ : ∃ W1, w.alloc (.cells #[.int .i64 0, .slice none 0 0, .slice none 0 0, .int .i64 0, .int .i64 0] 137) = W1 := ⟨_, rfl⟩
  have hb : Below w.heap.size w W1 := by rw [← hW1]; exact bl1 _ _
  have bx : BoxC W1 w.heap.size #[.int .i64 0, .slice none 0 0, .slice none 0 0, .int .i64 0, .int .i64 0] 137 := by rw [← hW1]; exact BoxC.new _ _ _
  try rw [hW1]
  clear hW1
  have z4 := x4.below hb
  have z5 := x5.below hb
  have c0 := z4.cell 0
  have f0 := z4.frozen 0
  have q0 := bx.cell 0
  have c1 := z4.cell 1
  have f1 := z4.frozen 1
  have q1 := bx.cell 1
  have c2 := z4.cell 2
  have f2 := z4.frozen 2
  have q2 := bx.cell 2
  have c3 := z4.cell 3
  have f3 := z4.frozen 3
  have q3 := bx.cell 3
  have c4 := z4.cell 4
  have f4 := z4.frozen 4
  have q4 := bx.cell 4
  have d0 := z5.cell 0
  have g0 := z5.frozen 0
  simp only [List.getElem?_toArray, List.getElem?_cons_zero, List.getElem?_cons_succ] at c0 c1 c2 c3 c4 d0 q0 q1 q2 q3 q4
  have X4 := Lib.hid (BoxC.oth (i := 0) (v := .int .i64 4) (Ne.symm hne) (((((z4.put 0 (.int .i64 0)).put 1 (.slice none 0 0)).put 2 (.slice none 0 0)).put 3 (.int .i64 0)).put 4 (.int .i64 0)))
  have X5 := Lib.hid ((BoxC.oth (i := 4) (v := .int .i64 0) hne (BoxC.oth (i := 3) (v := .int .i64 0) hne (BoxC.oth (i := 2) (v := .slice none 0 0) hne (BoxC.oth (i := 1) (v := .slice none 0 0) hne (BoxC.oth (i := 0) (v := .int .i64 0) hne z5))))).put 0 (.int .i64 4))
  have HB := Lib.hid (((((((hb.mono (show N ≤ w.heap.size by omega)).setCell (p := ⟨b4, 0, none⟩) h4 (.int .i64 0)).setCell (p := ⟨b4, 1, none⟩) h4 (.slice none 0 0)).setCell (p := ⟨b4, 2, none⟩) h4 (.slice none 0 0)).setCell (p := ⟨b4, 3, none⟩) h4 (.int .i64 0)).setCell (p := ⟨b4, 4, none⟩) h4 (.int .i64 0)).setCell (p := ⟨b5, 0, none⟩) h5 (.int .i64 4))
  clear x4 x5 hb bx z4 z5
  go_wp2
  generalize ((((((W1.setCell ⟨b4, 0, none⟩ (.int .i64 0)).setCell ⟨b4, 1, none⟩ (.slice none 0 0)).setCell ⟨b4, 2, none⟩ (.slice none 0 0)).setCell ⟨b4, 3, none⟩ (.int .i64 0)).setCell ⟨b4, 4, none⟩ (.int .i64 0)).setCell ⟨b5, 0, none⟩ (.int .i64 4)) = W9 at *
  have Y4 : BoxC W9 b4 #[.int .i64 0, .slice none 0 0, .slice none 0 0, .int .i64 0, .int .i64 0] 137 := X4.out
  have Y5 : BoxC W9 b5 #[.int .i64 4] 26 := X5.out
  have YB := HB.out
  simp [bodyPostS, results, Tryz.results125, caughtP]
  exact ⟨Y4, Y5, YB⟩
set_option maxRecDepth 100000 in
set_option maxHeartbeats 4000000 in
/-- read's deferred function, where nothing gave up (137). -/
theorem catchpl_idle (b4 b5 : Nat) (w : World) :
    CallsD Tryz.prog 125 #[.pointer (some ⟨b4, 0, none⟩), .pointer (some ⟨b5, 0, none⟩)] .returning w fun e u' w' => e = .returned (.tuple #[]) ∧ u' = .returning ∧ w' = w := by
  refine callsD_of_wpS Tryz.func125 rfl fun c₀ cs hu => ?_
  apply wpS_seq
  apply wpS_region
  simp [wpOpsS, go_sem, recoverD, hu, Tryz.ntmps125, Exit.thenS]
  refine wpS_of_wp ?_
  go_wp2
  cases c₀
  simp_all [bodyPostS, results, Tryz.results125]
end Go.Proofs.YtglkndoghnblcaaGreatDoor
namespace Go.Proofs.YtglkndoghnblcaaGreatDoor
open Go.ChangeShapes Go.WideShapes Go.ChangeAt Go.RowKit
set_option linter.unusedVariables false
set_option linter.unusedSimpArgs false
/-- What stands while read ends. -/
structure RdX (N B : Nat) (cs : Array Value) (ty : TypeId) (w4 : World) (P : World → Prop) (R3 : List Int) (X : World) : Prop where
  b4 : BoxC X N cs ty
  b5 : ∃ y : Int, BoxC X (N + 1) #[.int .i64 y] 26
  bel : Below N w4 X
  pw : P X
  rds : RdS X B R3
  sz : N + 1 + 1 ≤ X.heap.size
theorem RdX.below {N B : Nat} {cs : Array Value} {ty : TypeId} {w4 X X' : World} {P : World → Prop} {R3 : List Int} (h : RdX N B cs ty w4 P R3 X) (hP : ∀ X X', Below X.heap.size X X' → P X → P X') (b : Below X.heap.size X X') : RdX N B cs ty w4 P R3 X' :=
  ⟨h.b4.below b, h.b5.imp fun y hy => hy.below b, h.bel.trans (b.mono (Nat.le_trans (by omega) h.sz)), hP _ _ b h.pw, h.rds.below b, Nat.le_trans h.sz b.size⟩
theorem rdx4 {N B : Nat} {cs cs' : Array Value} {ty : TypeId} {w4 X X' : World} {P : World → Prop} {R3 : List Int} (h : RdX N B cs ty w4 P R3 X) (hNB : N + 1 < B) (hno : ∀ (i : Nat) (x : Int), cs[i]? ≠ some (.int .u8 x)) (g : X.grownBy X' (some N)) (hb : BoxC X' N cs' ty) (hbel : Below N w4 X') (hp : P X') : RdX N B cs' ty w4 P R3 X' :=
  ⟨hb, h.b5.imp fun y hy => hy.gr g (by omega), hbel, hp, h.rds.setbox h.b4 hno (by omega) g, Nat.le_trans h.sz g.size⟩
theorem rdx5 {N B : Nat} {cs : Array Value} {ty : TypeId} {w4 X : World} {P : World → Prop} {R3 : List Int} (h : RdX N B cs ty w4 P R3 X) (hNB : N + 1 < B) (hp : P (X.setCell ⟨N + 1, 0, none⟩ (.int .i64 0))) : RdX N B cs ty w4 P R3 (X.setCell ⟨N + 1, 0, none⟩ (.int .i64 0)) := by
  have g : X.grownBy (X.setCell ⟨N + 1, 0, none⟩ (.int .i64 0)) (some (N + 1)) := oth_set _ _ _ _
  obtain ⟨y, hy⟩ := h.b5
  exact ⟨h.b4.gr g (by omega), ⟨0, hy.put 0 (.int .i64 0)⟩, h.bel.setCell (p := ⟨N + 1, 0, none⟩) (by simp) _, hp, h.rds.setbox hy (no1 y) (by omega) g, Nat.le_trans h.sz g.size⟩
theorem put95 {R : Ending → World → Prop} {i : Nat} (hi : i ≠ 4 ∧ i ≠ 5) {v : Value} {c : List PanicEntry} {a : Act} {w : World} (h : bodyPostD Tryz.prog Tryz.f62 R (.panic c) (a.put (some i) v) w) : bodyPostD Tryz.prog Tryz.f62 R (.panic c) a w := by
  refine leaves_put (fun w => ?_) _ _ _ h
  have e4 : (a.tmps.setIfInBounds i v)[4]? = a.tmps[4]? := Array.getElem?_setIfInBounds_ne hi.1
  have e5 : (a.tmps.setIfInBounds i v)[5]? = a.tmps[5]? := Array.getElem?_setIfInBounds_ne hi.2
  simp [results, Tryz.results62, Act.put, e4, e5]
def RdMn (w : World) (o : Option (Mn)) (r : Ending) (w' : World) : Prop :=
  ((o = none ∧ r = .returned (.tuple #[.agg #[.int .i64 0, .string { data := #[] }, .int .i64 0, .int .i64 0, .slice none 0 0], .int .i64 4])) ∨ ∃ x v, o = some x ∧ r = .returned (.tuple #[v, .int .i64 0]) ∧ MnO w' w.heap.size x v) ∧ Below w.heap.size w w'
set_option maxRecDepth 100000 in
set_option maxHeartbeats 4000000 in
/-- read (95). -/
theorem readmn_law (a0 : Option Addr) (L : List Int) (n cap : Nat) (hL : L.length = n) (hn : n ≤ 1000000) (hB : Byt L) (w : World) (hA : Ls .u8 w a0 cap L) :
    Calls Tryz.prog 62 #[.slice a0 n cap, .func (.func 64) #[] #[]] w (RdMn w (readP (manP L))) := by
  have hmf : ∀ (fn : Fn) (first cap : Array Value) (w : World), (Instr.makeFunc fn first cap).run Tryz.prog w = .ok (.func fn first cap) w := fun _ _ _ _ => rfl
  have HA := Lib.hid (fun W (b : Below w.heap.size w W) => open_law a0 L n cap hL hn hB W (hA.below b))
  clear hL hn hB hA
  go_enter_defers Tryz.func62, Tryz.ntmps62
  go_upto_region 2 with (fail)
  obtain ⟨W1, hW1⟩ : ∃ W1, (w.alloc (.cells #[.int .i64 0, .string { data := #[] }, .int .i64 0, .int .i64 0, .slice none 0 0] 39)).alloc (.cells #[.int .i64 0] 26) = W1 := ⟨_, rfl⟩
  have hb1 : Below w.heap.size w W1 := by rw [← hW1]; exact step_below (bl1 _ _) (bl1 _ _)
  have x4 : BoxC W1 w.heap.size #[.int .i64 0, .string { data := #[] }, .int .i64 0, .int .i64 0, .slice none 0 0] 39 := by rw [← hW1]; exact (BoxC.new _ _ _).alloc _
  have x5 : BoxC W1 (w.heap.size + 1) #[.int .i64 0] 26 := by rw [← hW1]; have := BoxC.new (w.alloc (.cells #[.int .i64 0, .string { data := #[] }, .int .i64 0, .int .i64 0, .slice none 0 0] 39)) #[.int .i64 0] 26; simpa using this
  have hs1 : W1.heap.size = w.heap.size + 1 + 1 := by rw [← hW1]; simp
  try rw [hW1]
  clear hW1
  have HO := Lib.hid (HA.out _ hb1)
  have HB1 := Lib.hid hb1
  obtain ⟨N, hN⟩ : ∃ N, w.heap.size = N := ⟨_, rfl⟩
  have HN := Lib.hid hN
  rw [hN] at x4 x5 hs1 ⊢
  have X4 := Lib.hid x4
  have X5 := Lib.hid x5
  clear hb1 x4 x5 hN HA
  go_wp2_with fail
  refine HO.out.mono ?_; rintro e w2 ⟨B, rfl, r2, hB, B2⟩
  have X42 := Lib.hid (X4.out.below B2)
  have X52 := Lib.hid (X5.out.below B2)
  have HB2 := Lib.hid (step_below HB1.out B2)
  have HT := Lib.hid (manone_law r2)
  have hs2 : N + 1 + 1 ≤ w2.heap.size := by rw [← hs1]; exact B2.size
  clear X4 X5 HB1 r2 B2
  rw [hs1] at hB
  go_wp2_with fail
  refine HT.out.mono ?_
  rintro r w3 ⟨⟨e1, rfl⟩ | ⟨⟨g, nm, e, f, xs⟩, R3, v, e1, rfl, hv, r3⟩, g3⟩
  · have HX := Lib.hid (readP_1 e1)
    have z4 := X42.out.gr g3 (by omega)
    have z5 := X52.out.gr g3 (by omega)
    have HB3 := Lib.hid (below_oth HB2.out g3 HB2.out.size (by rw [HN.out]; omega))
    clear g3 e1
    go_wp2_with fail
    refine leaves_cons (f := 110) (args := #[.pointer (some ⟨N, 0, none⟩), .pointer (some ⟨N + 1, 0, none⟩)]) (by simp) (by simp [go_sem]) ?_
    refine (catchmn_panic (N := N) (b4 := N) (b5 := N + 1) (w := w3) (x4 := z4) (x5 := z5) (hne := by omega) (h4 := Nat.le_refl _) (h5 := by omega)).mono ?_
    rintro e9 u' w9 ⟨rfl, rfl, q4, q5, HB9⟩
    have y0 := q4.cell 0
    have y1 := q4.cell 1
    have y2 := q4.cell 2
    have y3 := q4.cell 3
    have y4 := q4.cell 4
    have y99 := q5.cell 0
    simp only [List.getElem?_toArray, List.getElem?_cons_zero, List.getElem?_cons_succ] at y0 y1 y2 y3 y4 y99
    have HE := Lib.hid (show RdMn w (readP (manP L)) (.returned (.tuple #[.agg #[.int .i64 0, .string { data := #[] }, .int .i64 0, .int .i64 0, .slice none 0 0], .int .i64 4])) w9 from ⟨.inl ⟨HX.out, rfl⟩, HB3.out.trans (by rw [HN.out]; exact HB9)⟩)
    simp [Leaves, settle, caughtP, results, Tryz.results62, go_sem, y0, y1, y2, y3, y4, y99]
    exact HE.out
  obtain ⟨a, c, rfl, hw⟩ := hv
  simp only at hw ⊢
  obtain ⟨xl, hxl⟩ : ∃ xl, xs.length = xl := ⟨_, rfl⟩
  have HXL := Lib.hid hxl
  obtain ⟨st, hst⟩ : ∃ st, strOfNums nm = st := ⟨_, rfl⟩
  have HST := Lib.hid hst
  rw [hxl] at hw ⊢
  rw [hst]
  have HW3 := Lib.hid (hw.base hs2)
  clear hw hxl hst
  have E1 := Lib.hid e1
  have z4 := X42.out.gr g3 (by omega)
  have z5 := Lib.hid (X52.out.gr g3 (by omega))
  have HB3 := Lib.hid (below_oth HB2.out g3 HB2.out.size (by rw [HN.out]; omega))
  have hs3 : N + 1 + 1 ≤ w3.heap.size := Nat.le_trans hs2 g3.size
  have R3' := Lib.hid r3
  have x0 := z4.cell 0
  have f0 := z4.frozen 0
  have x1 := z4.cell 1
  have f1 := z4.frozen 1
  have x2 := z4.cell 2
  have f2 := z4.frozen 2
  have x3 := z4.cell 3
  have f3 := z4.frozen 3
  have x4 := z4.cell 4
  have f4 := z4.frozen 4
  simp only [List.getElem?_toArray, List.getElem?_cons_zero, List.getElem?_cons_succ] at x0 x1 x2 x3 x4
  have Y4 := Lib.hid (((((z4.put 0 (.int .i64 (g : Int))).put 1 (.string st)).put 2 (.int .i64 (e : Int))).put 3 (.int .i64 (f : Int))).put 4 (.slice a xl c))
  have Y5 := Lib.hid (show BoxC (((((w3.setCell ⟨N, 0, none⟩ (.int .i64 (g : Int))).setCell ⟨N, 1, none⟩ (.string st)).setCell ⟨N, 2, none⟩ (.int .i64 (e : Int))).setCell ⟨N, 3, none⟩ (.int .i64 (f : Int))).setCell ⟨N, 4, none⟩ (.slice a xl c)) (N + 1) #[.int .i64 0] 26 from (BoxC.oth (i := 4) (v := .slice a xl c) (by omega) (BoxC.oth (i := 3) (v := .int .i64 (f : Int)) (by omega) (BoxC.oth (i := 2) (v := .int .i64 (e : Int)) (by omega) (BoxC.oth (i := 1) (v := .string st) (by omega) (BoxC.oth (i := 0) (v := .int .i64 (g : Int)) (by omega) z5.out))))))
  have H9 := Lib.hid (show w3.grownBy (((((w3.setCell ⟨N, 0, none⟩ (.int .i64 (g : Int))).setCell ⟨N, 1, none⟩ (.string st)).setCell ⟨N, 2, none⟩ (.int .i64 (e : Int))).setCell ⟨N, 3, none⟩ (.int .i64 (f : Int))).setCell ⟨N, 4, none⟩ (.slice a xl c)) (some N) from oth_trans (oth_set _ _ _ _) (oth_trans (oth_set _ _ _ _) (oth_trans (oth_set _ _ _ _) (oth_trans (oth_set _ _ _ _) (oth_set _ _ _ _)))))
  have HB9 := Lib.hid ((((((Below.refl N w3).setCell (p := ⟨N, 0, none⟩) (Nat.le_refl _) (.int .i64 (g : Int))).setCell (p := ⟨N, 1, none⟩) (Nat.le_refl _) (.string st)).setCell (p := ⟨N, 2, none⟩) (Nat.le_refl _) (.int .i64 (e : Int))).setCell (p := ⟨N, 3, none⟩) (Nat.le_refl _) (.int .i64 (f : Int))).setCell (p := ⟨N, 4, none⟩) (Nat.le_refl _) (.slice a xl c))
  have Z4 := Lib.hid z4
  have NO8 := Lib.hid (show ∀ (i : Nat) (x : Int), (#[.int .i64 (g : Int), .string st, .int .i64 (e : Int), .int .i64 (f : Int), .slice a xl c] : Array Value)[i]? ≠ some (.int .u8 x) by
    intro i x h
    match i, h with
    | 0, h => simp at h
    | 1, h => simp at h
    | 2, h => simp at h
    | 3, h => simp at h
    | 4, h => simp at h
    | i + 5, h => simp at h)
  have NO0 := Lib.hid (show ∀ (i : Nat) (x : Int), (#[.int .i64 0, .string { data := #[] }, .int .i64 0, .int .i64 0, .slice none 0 0] : Array Value)[i]? ≠ some (.int .u8 x) by
    intro i x h
    match i, h with
    | 0, h => simp at h
    | 1, h => simp at h
    | 2, h => simp at h
    | 3, h => simp at h
    | 4, h => simp at h
    | i + 5, h => simp at h)
  clear z4 r3 g3 e1 X42 X52 HB2 HT
  go_upto_region 4 with (fail)
  clear x0 x1 x2 x3 x4 f0 f1 f2 f3 f4
  generalize (((((w3.setCell ⟨N, 0, none⟩ (.int .i64 (g : Int))).setCell ⟨N, 1, none⟩ (.string st)).setCell ⟨N, 2, none⟩ (.int .i64 (e : Int))).setCell ⟨N, 3, none⟩ (.int .i64 (f : Int))).setCell ⟨N, 4, none⟩ (.slice a xl c)) = w4 at *
  have hNB : N + 1 < B := by omega
  have hd : Below w4.heap.size w4 w4.drew := (Below.refl _ _).drew
  have FQ := Lib.hid (show (RdX N B #[.int .i64 (g : Int), .string st, .int .i64 (e : Int), .int .i64 (f : Int), .slice a xl c] 39 w4 (fun X => PartsO X (N + 1 + 1) xs (.slice a xl c)) R3) w4.drew from RdX.below ⟨Y4.out, ⟨0, Y5.out⟩, Below.refl _ _, HW3.out.oth (by omega) H9.out, R3'.out.setbox Z4.out NO0.out (by omega) H9.out, Nat.le_trans hs3 H9.out.size⟩ (fun X X' b h => PartsO.below h b) hd)
  have HBA := Lib.hid (show Below N w w4 from by have := HB3.out; rw [HN.out] at this; exact this.trans HB9.out)
  clear hd Y4 Y5 H9 HB9 R3' z5 HB3 Z4
  by_cases hz : R3 = []
  · have HX := Lib.hid (readP_3 (by rw [E1.out, hz] : manP L = some (_, [])))
    refine wp_region_held_drew (S := (RdX N B #[.int .i64 (g : Int), .string st, .int .i64 (e : Int), .int .i64 (f : Int), .slice a xl c] 39 w4 (fun X => PartsO X (N + 1 + 1) xs (.slice a xl c)) R3)) (by kernel_rfl) (FQ.out) (fun hHeld => ?_)
    refine wpAnyH_take (i := 0) (oi := { dst := some 13, op := Op.load 39 (Operand.tmp 4), type := 39, pos := "forms.go:32", after := #[], guard := none }) (v := ?_) rfl (by kernel_rfl) (by kernel_rfl) (by kernel_rfl) (fun _ _ _ h => put95 (i := 13) (by decide) h) (Or.inl ⟨by rfl, ?_⟩) (by assumption) ?_
    rotate_left
    · intro W hSw; obtain ⟨z4, _⟩ := hSw; have y0 := z4.cell 0; have y1 := z4.cell 1; have y2 := z4.cell 2; have y3 := z4.cell 3; have y4 := z4.cell 4; simp only [List.getElem?_toArray, List.getElem?_cons_zero, List.getElem?_cons_succ] at y0 y1 y2 y3 y4; go_simp; try with_reducible rfl
    try simp only [Act.put, List.setIfInBounds_toArray, List.set_cons_zero, List.set_cons_succ]
    refine wpAnyH_take (i := 1) (oi := { dst := some 14, op := Op.move (Operand.tmp 6), type := 116, pos := "forms.go:32", after := #[], guard := none }) (v := ?_) rfl (by kernel_rfl) (by kernel_rfl) (by kernel_rfl) (fun _ _ _ h => put95 (i := 14) (by decide) h) (Or.inl ⟨by rfl, ?_⟩) (by assumption) ?_
    rotate_left
    · intro W hSw; go_simp; try with_reducible rfl
    try simp only [Act.put, List.setIfInBounds_toArray, List.set_cons_zero, List.set_cons_succ]
    refine a1 2 rfl (fun K hK => ?_)
    go_simp
    have HEN := Lib.hid (end_law hHeld.rds)
    rw [if_pos hz] at HEN
    refine (HEN.out).mono ?_; rintro e9 w5 ⟨rfl, hb3⟩
    go_wp2_with fail
    refine hK.out _ _ (hHeld.below (fun X X' b h => PartsO.below h b) hb3) (fun hHeldn => ?_)
    clear hK K hHeld; have hHeld := hHeldn; clear hHeldn
    try simp only [Act.put, List.setIfInBounds_toArray, List.set_cons_zero, List.set_cons_succ]
    refine a1 3 rfl (fun K hK => ?_)
    go_simp
    refine (must_errno_ok _ _).mono ?_; rintro e9 w6 ⟨rfl, rfl⟩
    go_wp2_with fail
    refine hK.out _ _ (hHeld) (fun hHeldn => ?_)
    clear hK K hHeld; have hHeld := hHeldn; clear hHeldn
    try simp only [Act.put, List.setIfInBounds_toArray, List.set_cons_zero, List.set_cons_succ]
    refine a1 4 rfl (fun K hK => ?_)
    have hHc := hHeld
    obtain ⟨z4, ⟨y9, z5⟩, zb, zp, zr, zs⟩ := hHeld
    have y0 := z4.cell 0; have y1 := z4.cell 1; have y2 := z4.cell 2; have y3 := z4.cell 3; have y4 := z4.cell 4; simp only [List.getElem?_toArray, List.getElem?_cons_zero, List.getElem?_cons_succ] at y0 y1 y2 y3 y4
    have f0 := z4.frozen 0; have f1 := z4.frozen 1; have f2 := z4.frozen 2; have f3 := z4.frozen 3; have f4 := z4.frozen 4
    have SP4 := Lib.hid (rdx4 hHc hNB NO8.out (oth_trans (oth_set _ _ _ _) (oth_trans (oth_set _ _ _ _) (oth_trans (oth_set _ _ _ _) (oth_trans (oth_set _ _ _ _) (oth_set _ _ _ _))))) (((((hHc.b4.put 0 (.int .i64 (g : Int))).put 1 (.string st)).put 2 (.int .i64 (e : Int))).put 3 (.int .i64 (f : Int))).put 4 (.slice a xl c)) (((((hHc.bel.setCell (p := ⟨N, 0, none⟩) (Nat.le_refl _) (.int .i64 (g : Int))).setCell (p := ⟨N, 1, none⟩) (Nat.le_refl _) (.string st)).setCell (p := ⟨N, 2, none⟩) (Nat.le_refl _) (.int .i64 (e : Int))).setCell (p := ⟨N, 3, none⟩) (Nat.le_refl _) (.int .i64 (f : Int))).setCell (p := ⟨N, 4, none⟩) (Nat.le_refl _) (.slice a xl c)) (PartsO.oth zp (B := N) (by omega) (oth_trans (oth_set _ _ _ _) (oth_trans (oth_set _ _ _ _) (oth_trans (oth_set _ _ _ _) (oth_trans (oth_set _ _ _ _) (oth_set _ _ _ _)))))))
    clear hHc z4 z5 zb zp zr zs
    go_simp
    refine hK.out _ _ SP4.out (fun hHeldn => ?_)
    clear hK K y0 y1 y2 y3 y4 f0 f1 f2 f3 f4 SP4; have hHeld := hHeldn; clear hHeldn
    try simp only [Act.put, List.setIfInBounds_toArray, List.set_cons_zero, List.set_cons_succ]
    refine a1 5 rfl (fun K hK => ?_)
    have hHc := hHeld
    obtain ⟨z4, ⟨y8, z5⟩, zb, zp, zr, zs⟩ := hHeld
    have y0 := z5.cell 0; have f0 := z5.frozen 0; simp only [List.getElem?_toArray, List.getElem?_cons_zero, List.getElem?_cons_succ] at y0
    have SP5 := Lib.hid (rdx5 hHc hNB (PartsO.oth zp (B := N + 1) (by omega) (oth_set _ _ _ _)))
    have Z5 := Lib.hid (z5.put 0 (.int .i64 0))
    clear hHc z4 z5 zb zp zr zs
    go_simp
    refine hK.out _ _ SP5.out (fun hHeldn => ?_)
    clear hK K y0 f0 SP5; have hHeld := hHeldn; clear hHeldn
    try simp only [Act.put, List.setIfInBounds_toArray, List.set_cons_zero, List.set_cons_succ]
    refine wpAnyH_done (by kernel_rfl) ?_ _
    skip
    generalize ((((((w5.setCell ⟨N, 0, none⟩ (.int .i64 (g : Int))).setCell ⟨N, 1, none⟩ (.string st)).setCell ⟨N, 2, none⟩ (.int .i64 (e : Int))).setCell ⟨N, 3, none⟩ (.int .i64 (f : Int))).setCell ⟨N, 4, none⟩ (.slice a xl c)).setCell ⟨N + 1, 0, none⟩ (.int .i64 0)) = W9 at *
    obtain ⟨q4, _, qb, qw, _, qs⟩ := hHeld
    have y0 := q4.cell 0
    have y1 := q4.cell 1
    have y2 := q4.cell 2
    have y3 := q4.cell 3
    have y4 := q4.cell 4
    have y99 := Z5.out.cell 0
    simp at y0 y1 y2 y3 y4 y99
    go_wp2_with fail
    refine leaves_cons (f := 110) (args := #[.pointer (some ⟨N, 0, none⟩), .pointer (some ⟨N + 1, 0, none⟩)]) (by simp) (by simp [go_sem]) ?_
    refine (catchmn_idle N (N + 1) _).mono ?_
    rintro e9 u' w9 ⟨rfl, rfl, rfl⟩
    have HE := Lib.hid (show RdMn w (readP (manP L)) (.returned (.tuple #[.agg #[.int .i64 (g : Int), .string st, .int .i64 (e : Int), .int .i64 (f : Int), .slice a xl c], .int .i64 0])) w9 from ⟨.inr ⟨_, _, HX.out, rfl, ⟨a, c, by simp only [HXL.out, HST.out], by rw [HN.out]; simp only; rw [HXL.out]; exact PartsO.base (by omega) qw⟩⟩, by rw [HN.out]; exact HBA.out.trans qb⟩)
    clear q4 qb qw qs Z5
    simp [Leaves, settle, results, Tryz.results62, go_sem, y0, y1, y2, y3, y4, y99]
    exact HE.out
  · have HX := Lib.hid (readP_2 E1.out hz)
    refine wp_region_held_drew (S := (RdX N B #[.int .i64 (g : Int), .string st, .int .i64 (e : Int), .int .i64 (f : Int), .slice a xl c] 39 w4 (fun X => PartsO X (N + 1 + 1) xs (.slice a xl c)) R3)) (by kernel_rfl) (FQ.out) (fun hHeld => ?_)
    refine wpAnyH_take (i := 0) (oi := { dst := some 13, op := Op.load 39 (Operand.tmp 4), type := 39, pos := "forms.go:32", after := #[], guard := none }) (v := ?_) rfl (by kernel_rfl) (by kernel_rfl) (by kernel_rfl) (fun _ _ _ h => put95 (i := 13) (by decide) h) (Or.inl ⟨by rfl, ?_⟩) (by assumption) ?_
    rotate_left
    · intro W hSw; obtain ⟨z4, _⟩ := hSw; have y0 := z4.cell 0; have y1 := z4.cell 1; have y2 := z4.cell 2; have y3 := z4.cell 3; have y4 := z4.cell 4; simp only [List.getElem?_toArray, List.getElem?_cons_zero, List.getElem?_cons_succ] at y0 y1 y2 y3 y4; go_simp; try with_reducible rfl
    try simp only [Act.put, List.setIfInBounds_toArray, List.set_cons_zero, List.set_cons_succ]
    refine wpAnyH_take (i := 1) (oi := { dst := some 14, op := Op.move (Operand.tmp 6), type := 116, pos := "forms.go:32", after := #[], guard := none }) (v := ?_) rfl (by kernel_rfl) (by kernel_rfl) (by kernel_rfl) (fun _ _ _ h => put95 (i := 14) (by decide) h) (Or.inl ⟨by rfl, ?_⟩) (by assumption) ?_
    rotate_left
    · intro W hSw; go_simp; try with_reducible rfl
    try simp only [Act.put, List.setIfInBounds_toArray, List.set_cons_zero, List.set_cons_succ]
    refine a1 2 rfl (fun K hK => ?_)
    go_simp
    have HEN := Lib.hid (end_law hHeld.rds)
    rw [if_neg hz] at HEN
    refine (HEN.out).mono ?_; rintro e9 w5 ⟨rfl, hb3⟩
    go_wp2_with fail
    refine hK.out _ _ (hHeld.below (fun X X' b h => PartsO.below h b) hb3) (fun hHeldn => ?_)
    clear hK K hHeld; have hHeld := hHeldn; clear hHeldn
    try simp only [Act.put, List.setIfInBounds_toArray, List.set_cons_zero, List.set_cons_succ]
    refine a1 3 rfl (fun K hK => ?_)
    go_simp
    refine (must_errno_no _ 4 (by decide) _).mono ?_; rintro e9 w6 ⟨rfl, rfl⟩
    go_wp2_with fail
    obtain ⟨q4, ⟨y9, q5⟩, qb, _, _, _⟩ := hHeld
    have HQB := Lib.hid qb
    refine leaves_cons (f := 110) (args := #[.pointer (some ⟨N, 0, none⟩), .pointer (some ⟨N + 1, 0, none⟩)]) (by simp) (by simp [go_sem]) ?_
    refine (catchmn_panic (N := N) (b4 := N) (b5 := N + 1) (x4 := q4) (x5 := q5) (hne := by omega) (h4 := Nat.le_refl _) (h5 := by omega)).mono ?_
    rintro e9 u' w9 ⟨rfl, rfl, q4, q5, HB9⟩
    have y0 := q4.cell 0
    have y1 := q4.cell 1
    have y2 := q4.cell 2
    have y3 := q4.cell 3
    have y4 := q4.cell 4
    have y99 := q5.cell 0
    simp only [List.getElem?_toArray, List.getElem?_cons_zero, List.getElem?_cons_succ] at y0 y1 y2 y3 y4 y99
    have HE := Lib.hid (show RdMn w (readP (manP L)) (.returned (.tuple #[.agg #[.int .i64 0, .string { data := #[] }, .int .i64 0, .int .i64 0, .slice none 0 0], .int .i64 4])) w9 from ⟨.inl ⟨HX.out, rfl⟩, by rw [HN.out]; exact (HBA.out.trans HQB.out).trans HB9⟩)
    simp [Leaves, settle, caughtP, results, Tryz.results62, go_sem, y0, y1, y2, y3, y4, y99]
    exact HE.out
end Go.Proofs.YtglkndoghnblcaaGreatDoor
namespace Go.Proofs.YtglkndoghnblcaaGreatDoor
open Go.ChangeShapes Go.WideShapes Go.ChangeAt Go.RowKit
set_option linter.unusedVariables false
set_option linter.unusedSimpArgs false
/-- A stored row that is read: its table, its key, its row, its number. -/
structure Pl where
  t : Nat
  k : List Int
  fs : List (List Int)
  e : Nat
  s : Nat
def plP (L : List Int) : Option (Pl × List Int) :=
  bindP (upP 4 L) fun t r1 => bindP (bytesP 32 r1) fun k r2 => bindP (arowP r2) fun fs r3 => bindP (tidP r3) fun ts r4 => some (⟨t, k, fs, ts.1, ts.2⟩, r4)
def PlO (w : World) (base : Nat) (x : Pl) (v : Value) : Prop := ∃ ka kc ra rc, v = .agg #[.int .i64 (x.t : Int), .slice ka x.k.length kc, .slice ra x.fs.length rc, .int .i64 (x.e : Int), .int .i64 (x.s : Int)] ∧ w.ownsRow base 5 1 (.slice ka x.k.length kc) x.k.length (iv .u8 x.k) ∧ RowsO w base x.fs (.slice ra x.fs.length rc)
set_option maxRecDepth 100000 in
set_option maxHeartbeats 4000000 in
/-- stored (85). -/
theorem stored_law {W : World} {B : Nat} {R : List Int} (h : RdS W B R) :
    Calls Tryz.prog 81 #[.pointer (some ⟨B, 0, none⟩)] W (GetR W B (plP R) (fun x w' v => PlO w' W.heap.size x v)) := by
  have hlt := h.lt
  have HR := Lib.hid h
  clear h
  go_enter Tryz.func81, Tryz.ntmps81
  go_upto_region 1 with (fail)
  obtain ⟨W1, hW1⟩ : ∃ W1, W.alloc (.cells #[.int .i64 0, .slice none 0 0, .slice none 0 0, .int .i64 0, .int .i64 0] 137) = W1 := ⟨_, rfl⟩
  have hb1 : Below W.heap.size W W1 := by rw [← hW1]; exact bl1 _ _
  have bx : BoxC W1 W.heap.size #[.int .i64 0, .slice none 0 0, .slice none 0 0, .int .i64 0, .int .i64 0] 137 := by rw [← hW1]; exact BoxC.new W _ 137
  have hsz : W1.heap.size = W.heap.size + 1 := by rw [← hW1]; simp
  try rw [hW1]
  clear hW1
  obtain ⟨N0, hN0⟩ : ∃ N, W.heap.size = N := ⟨_, rfl⟩
  have C1 := Lib.hid (upto_law (HR.out.below hb1) 4 (by decide))
  have HB1 := Lib.hid hb1
  have HN0 := Lib.hid hN0
  rw [hN0] at hsz hlt bx ⊢
  have BX := Lib.hid bx
  clear hb1 bx hN0
  go_wp2_with fail
  refine C1.out.mono ?_
  rintro r w2 ⟨⟨e1, rfl⟩ | ⟨t, R2, v, e1, rfl, rfl, r2⟩, g2⟩
  · have HX := Lib.hid (show plP R = none from bindP_none e1)
    have G := Lib.hid (oth_trans (oth_below B HB1.out) g2)
    clear e1 g2
    go_wp2_with fail
    first | exact ⟨rfl, .inl ⟨HX.out, rfl⟩, G.out⟩ | exact ⟨.inl ⟨HX.out, rfl⟩, G.out⟩
  have E1 := Lib.hid (show plP R = _ from bindP_some e1)
  have G2 := Lib.hid g2
  have C2 := Lib.hid (rbytes_law r2 32 (by decide))
  have hs2 : N0 + 1 ≤ w2.heap.size := by rw [← hsz]; exact g2.size
  clear e1 g2 r2 C1
  go_wp2_with fail
  refine C2.out.mono ?_
  rintro r w3 ⟨⟨e2, ⟨er, he, rfl⟩, r3⟩ | ⟨k, R3, ka, kc, e2, rfl, l3, r3⟩, g3⟩
  · have HX := Lib.hid (E1.out.trans (bindP_none e2))
    have HE := Lib.hid he.ne.2.2
    have G := Lib.hid (oth_trans (oth_below B HB1.out) (oth_trans G2.out g3))
    clear e2 g3 r3 he
    go_wp2_with fail
    refine (must_bytes_no _ er HE.out _).mono ?_
    rintro r w' ⟨rfl, rfl⟩
    go_wp2_with fail
    first | exact ⟨rfl, .inl ⟨HX.out, rfl⟩, G.out⟩ | exact ⟨.inl ⟨HX.out, rfl⟩, G.out⟩
  have E2 := Lib.hid (E1.out.trans (bindP_some e2))
  have G3 := Lib.hid (oth_trans G2.out g3)
  have L3 := Lib.hid (own_base hs2 l3)
  have C3 := Lib.hid (arow_law r3)
  have hs3 : N0 + 1 ≤ w3.heap.size := Nat.le_trans hs2 g3.size
  obtain ⟨kl, hkl⟩ : ∃ kl, k.length = kl := ⟨_, rfl⟩
  have HKL := Lib.hid hkl
  rw [hkl] at L3 ⊢
  clear e2 g3 r3 l3 hkl C2 E1 G2
  go_wp2_with fail
  refine (must_bytes_ok _ _).mono ?_
  rintro r w' ⟨rfl, rfl⟩
  go_wp2_with fail
  refine C3.out.mono ?_
  rintro r w4 ⟨⟨e3, rfl⟩ | ⟨fs, R4, rv, e3, rfl, hv, r4⟩, g4⟩
  · have HX := Lib.hid (E2.out.trans (bindP_none e3))
    have G := Lib.hid (oth_trans (oth_below B HB1.out) (oth_trans G3.out g4))
    clear e3 g4
    go_wp2_with fail
    first | exact ⟨rfl, .inl ⟨HX.out, rfl⟩, G.out⟩ | exact ⟨.inl ⟨HX.out, rfl⟩, G.out⟩
  have E3 := Lib.hid (E2.out.trans (bindP_some e3))
  have G4 := Lib.hid (oth_trans G3.out g4)
  obtain ⟨ra, rc, RR, rfl, _, _⟩ := hv.rdr
  have L4 := Lib.hid (own_oth L3.out (by omega) g4)
  have HV := Lib.hid (hv.base hs3)
  have C4 := Lib.hid (tid_law r4)
  obtain ⟨fl, hfl⟩ : ∃ fl, fs.length = fl := ⟨_, rfl⟩
  have HFL := Lib.hid hfl
  rw [hfl] at HV ⊢
  clear e3 g4 r4 C3 E2 G3 hv L3 hfl
  go_wp2_with fail
  refine C4.out.mono ?_
  rintro r w5 ⟨⟨e4, rfl⟩ | ⟨⟨e, s⟩, R5, v, e4, rfl, rfl, r5⟩, g5⟩
  · have HX := Lib.hid (E3.out.trans (bindP_none e4))
    have G := Lib.hid (oth_trans (oth_below B HB1.out) (oth_trans G4.out g5))
    clear e4 g5
    go_wp2_with fail
    first | exact ⟨rfl, .inl ⟨HX.out, rfl⟩, G.out⟩ | exact ⟨.inl ⟨HX.out, rfl⟩, G.out⟩
  have HX := Lib.hid (E3.out.trans (bindP_some e4))
  have G6 := Lib.hid (oth_trans (oth_below B HB1.out) (oth_trans G4.out g5))
  have L5 := Lib.hid (own_oth L4.out (by omega) g5)
  have V5 := Lib.hid (HV.out.oth (by omega) g5)
  have R6' := Lib.hid r5
  have X6 := Lib.hid (BX.out.gr (oth_trans G4.out g5) (by omega))
  clear e4 g5 r5 BX C4 E3 L4 HV
  simp only
  have x0 := X6.out.cell 0
  have f0 := X6.out.frozen 0
  have x1 := X6.out.cell 1
  have f1 := X6.out.frozen 1
  have x2 := X6.out.cell 2
  have f2 := X6.out.frozen 2
  have x3 := X6.out.cell 3
  have f3 := X6.out.frozen 3
  have x4 := X6.out.cell 4
  have f4 := X6.out.frozen 4
  simp only [List.getElem?_toArray, List.getElem?_cons_zero, List.getElem?_cons_succ] at x0 x1 x2 x3 x4
  have HX9 := Lib.hid (((((X6.out.put 0 (.int .i64 (t : Int))).put 1 (.slice ka kl kc)).put 2 (.slice ra fl rc)).put 3 (.int .i64 (e : Int))).put 4 (.int .i64 (s : Int)))
  have H9 := Lib.hid (show w5.grownBy (((((w5.setCell ⟨N0, 0, none⟩ (.int .i64 (t : Int))).setCell ⟨N0, 1, none⟩ (.slice ka kl kc)).setCell ⟨N0, 2, none⟩ (.slice ra fl rc)).setCell ⟨N0, 3, none⟩ (.int .i64 (e : Int))).setCell ⟨N0, 4, none⟩ (.int .i64 (s : Int))) (some N0) from oth_trans (oth_set _ _ _ _) (oth_trans (oth_set _ _ _ _) (oth_trans (oth_set _ _ _ _) (oth_trans (oth_set _ _ _ _) (oth_set _ _ _ _)))))
  have HB9 := Lib.hid ((((((Below.refl N0 w5).setCell (p := ⟨N0, 0, none⟩) (Nat.le_refl _) (.int .i64 (t : Int))).setCell (p := ⟨N0, 1, none⟩) (Nat.le_refl _) (.slice ka kl kc)).setCell (p := ⟨N0, 2, none⟩) (Nat.le_refl _) (.slice ra fl rc)).setCell (p := ⟨N0, 3, none⟩) (Nat.le_refl _) (.int .i64 (e : Int))).setCell (p := ⟨N0, 4, none⟩) (Nat.le_refl _) (.int .i64 (s : Int)))
  go_wp2_with fail
  clear x0 x1 x2 x3 x4 f0 f1 f2 f3 f4
  generalize (((((w5.setCell ⟨N0, 0, none⟩ (.int .i64 (t : Int))).setCell ⟨N0, 1, none⟩ (.slice ka kl kc)).setCell ⟨N0, 2, none⟩ (.slice ra fl rc)).setCell ⟨N0, 3, none⟩ (.int .i64 (e : Int))).setCell ⟨N0, 4, none⟩ (.int .i64 (s : Int))) = W9 at *
  refine bodyPost_ret (v := .agg #[.int .i64 (t : Int), .slice ka kl kc, .slice ra fl rc, .int .i64 (e : Int), .int .i64 (s : Int)]) ?_ rfl ⟨.inr ⟨_, _, _, HX.out, rfl, ⟨ka, kc, ra, rc, by simp only [HKL.out, HFL.out], ?_, ?_⟩, R6'.out.below1 (HB9.out.mono (by omega))⟩, grown_below G6.out (by rw [HN0.out]; exact HB9.out)⟩
  · have x0 := HX9.out.cell 0
    have x1 := HX9.out.cell 1
    have x2 := HX9.out.cell 2
    have x3 := HX9.out.cell 3
    have x4 := HX9.out.cell 4
    simp at x0 x1 x2 x3 x4
    simp [results, Tryz.results81, go_sem, x0, x1, x2, x3, x4]
  · rw [HN0.out]
    simp only
    rw [HKL.out]
    exact own_base (by omega) (own_oth L5.out (by omega) H9.out)
  · rw [HN0.out]
    simp only
    rw [HFL.out]
    exact (V5.out.oth (by omega) H9.out).base (by omega)
end Go.Proofs.YtglkndoghnblcaaGreatDoor
namespace Go.Proofs.YtglkndoghnblcaaGreatDoor
open Go.ChangeShapes Go.WideShapes Go.ChangeAt Go.RowKit
set_option linter.unusedVariables false
set_option linter.unusedSimpArgs false
theorem put84 {R : Ending → World → Prop} {i : Nat} (hi : i ≠ 4 ∧ i ≠ 5) {v : Value} {c : List PanicEntry} {a : Act} {w : World} (h : bodyPostD Tryz.prog Tryz.f80 R (.panic c) (a.put (some i) v) w) : bodyPostD Tryz.prog Tryz.f80 R (.panic c) a w := by
  refine leaves_put (fun w => ?_) _ _ _ h
  have e4 : (a.tmps.setIfInBounds i v)[4]? = a.tmps[4]? := Array.getElem?_setIfInBounds_ne hi.1
  have e5 : (a.tmps.setIfInBounds i v)[5]? = a.tmps[5]? := Array.getElem?_setIfInBounds_ne hi.2
  simp [results, Tryz.results80, Act.put, e4, e5]
def RdPl (w : World) (o : Option (Pl)) (r : Ending) (w' : World) : Prop :=
  ((o = none ∧ r = .returned (.tuple #[.agg #[.int .i64 0, .slice none 0 0, .slice none 0 0, .int .i64 0, .int .i64 0], .int .i64 4])) ∨ ∃ x v, o = some x ∧ r = .returned (.tuple #[v, .int .i64 0]) ∧ PlO w' w.heap.size x v) ∧ Below w.heap.size w w'
set_option maxRecDepth 100000 in
set_option maxHeartbeats 4000000 in
/-- read (84). -/
theorem readpl_law (a0 : Option Addr) (L : List Int) (n cap : Nat) (hL : L.length = n) (hn : n ≤ 1000000) (hB : Byt L) (w : World) (hA : Ls .u8 w a0 cap L) :
    Calls Tryz.prog 80 #[.slice a0 n cap, .func (.func 81) #[] #[]] w (RdPl w (readP (plP L))) := by
  have hmf : ∀ (fn : Fn) (first cap : Array Value) (w : World), (Instr.makeFunc fn first cap).run Tryz.prog w = .ok (.func fn first cap) w := fun _ _ _ _ => rfl
  have HA := Lib.hid (fun W (b : Below w.heap.size w W) => open_law a0 L n cap hL hn hB W (hA.below b))
  clear hL hn hB hA
  go_enter_defers Tryz.func80, Tryz.ntmps80
  go_upto_region 2 with (fail)
  obtain ⟨W1, hW1⟩ : ∃ W1, (w.alloc (.cells #[.int .i64 0, .slice none 0 0, .slice none 0 0, .int .i64 0, .int .i64 0] 137)).alloc (.cells #[.int .i64 0] 26) = W1 := ⟨_, rfl⟩
  have hb1 : Below w.heap.size w W1 := by rw [← hW1]; exact step_below (bl1 _ _) (bl1 _ _)
  have x4 : BoxC W1 w.heap.size #[.int .i64 0, .slice none 0 0, .slice none 0 0, .int .i64 0, .int .i64 0] 137 := by rw [← hW1]; exact (BoxC.new _ _ _).alloc _
  have x5 : BoxC W1 (w.heap.size + 1) #[.int .i64 0] 26 := by rw [← hW1]; have := BoxC.new (w.alloc (.cells #[.int .i64 0, .slice none 0 0, .slice none 0 0, .int .i64 0, .int .i64 0] 137)) #[.int .i64 0] 26; simpa using this
  have hs1 : W1.heap.size = w.heap.size + 1 + 1 := by rw [← hW1]; simp
  try rw [hW1]
  clear hW1
  have HO := Lib.hid (HA.out _ hb1)
  have HB1 := Lib.hid hb1
  obtain ⟨N, hN⟩ : ∃ N, w.heap.size = N := ⟨_, rfl⟩
  have HN := Lib.hid hN
  rw [hN] at x4 x5 hs1 ⊢
  have X4 := Lib.hid x4
  have X5 := Lib.hid x5
  clear hb1 x4 x5 hN HA
  go_wp2_with fail
  refine HO.out.mono ?_; rintro e w2 ⟨B, rfl, r2, hB, B2⟩
  have X42 := Lib.hid (X4.out.below B2)
  have X52 := Lib.hid (X5.out.below B2)
  have HB2 := Lib.hid (step_below HB1.out B2)
  have HT := Lib.hid (stored_law r2)
  have hs2 : N + 1 + 1 ≤ w2.heap.size := by rw [← hs1]; exact B2.size
  clear X4 X5 HB1 r2 B2
  rw [hs1] at hB
  go_wp2_with fail
  refine HT.out.mono ?_
  rintro r w3 ⟨⟨e1, rfl⟩ | ⟨⟨t, k, fs, e, s⟩, R3, v, e1, rfl, hv, r3⟩, g3⟩
  · have HX := Lib.hid (readP_1 e1)
    have z4 := X42.out.gr g3 (by omega)
    have z5 := X52.out.gr g3 (by omega)
    have HB3 := Lib.hid (below_oth HB2.out g3 HB2.out.size (by rw [HN.out]; omega))
    clear g3 e1
    go_wp2_with fail
    refine leaves_cons (f := 125) (args := #[.pointer (some ⟨N, 0, none⟩), .pointer (some ⟨N + 1, 0, none⟩)]) (by simp) (by simp [go_sem]) ?_
    refine (catchpl_panic (N := N) (b4 := N) (b5 := N + 1) (w := w3) (x4 := z4) (x5 := z5) (hne := by omega) (h4 := Nat.le_refl _) (h5 := by omega)).mono ?_
    rintro e9 u' w9 ⟨rfl, rfl, q4, q5, HB9⟩
    have y0 := q4.cell 0
    have y1 := q4.cell 1
    have y2 := q4.cell 2
    have y3 := q4.cell 3
    have y4 := q4.cell 4
    have y99 := q5.cell 0
    simp only [List.getElem?_toArray, List.getElem?_cons_zero, List.getElem?_cons_succ] at y0 y1 y2 y3 y4 y99
    have HE := Lib.hid (show RdPl w (readP (plP L)) (.returned (.tuple #[.agg #[.int .i64 0, .slice none 0 0, .slice none 0 0, .int .i64 0, .int .i64 0], .int .i64 4])) w9 from ⟨.inl ⟨HX.out, rfl⟩, HB3.out.trans (by rw [HN.out]; exact HB9)⟩)
    simp [Leaves, settle, caughtP, results, Tryz.results80, go_sem, y0, y1, y2, y3, y4, y99]
    exact HE.out
  obtain ⟨ka, kc, ra, rc, rfl, hk, hw⟩ := hv
  simp only at hk hw ⊢
  obtain ⟨kl, hkl⟩ : ∃ kl, k.length = kl := ⟨_, rfl⟩
  have HKL := Lib.hid hkl
  obtain ⟨fl, hfl⟩ : ∃ fl, fs.length = fl := ⟨_, rfl⟩
  have HFL := Lib.hid hfl
  rw [hkl] at hk ⊢
  rw [hfl] at hw ⊢
  have HK3 := Lib.hid (own_base hs2 hk)
  have HW3 := Lib.hid (hw.base hs2)
  clear hw hk hkl hfl
  have E1 := Lib.hid e1
  have z4 := X42.out.gr g3 (by omega)
  have z5 := Lib.hid (X52.out.gr g3 (by omega))
  have HB3 := Lib.hid (below_oth HB2.out g3 HB2.out.size (by rw [HN.out]; omega))
  have hs3 : N + 1 + 1 ≤ w3.heap.size := Nat.le_trans hs2 g3.size
  have R3' := Lib.hid r3
  have x0 := z4.cell 0
  have f0 := z4.frozen 0
  have x1 := z4.cell 1
  have f1 := z4.frozen 1
  have x2 := z4.cell 2
  have f2 := z4.frozen 2
  have x3 := z4.cell 3
  have f3 := z4.frozen 3
  have x4 := z4.cell 4
  have f4 := z4.frozen 4
  simp only [List.getElem?_toArray, List.getElem?_cons_zero, List.getElem?_cons_succ] at x0 x1 x2 x3 x4
  have Y4 := Lib.hid (((((z4.put 0 (.int .i64 (t : Int))).put 1 (.slice ka kl kc)).put 2 (.slice ra fl rc)).put 3 (.int .i64 (e : Int))).put 4 (.int .i64 (s : Int)))
  have Y5 := Lib.hid (show BoxC (((((w3.setCell ⟨N, 0, none⟩ (.int .i64 (t : Int))).setCell ⟨N, 1, none⟩ (.slice ka kl kc)).setCell ⟨N, 2, none⟩ (.slice ra fl rc)).setCell ⟨N, 3, none⟩ (.int .i64 (e : Int))).setCell ⟨N, 4, none⟩ (.int .i64 (s : Int))) (N + 1) #[.int .i64 0] 26 from (BoxC.oth (i := 4) (v := .int .i64 (s : Int)) (by omega) (BoxC.oth (i := 3) (v := .int .i64 (e : Int)) (by omega) (BoxC.oth (i := 2) (v := .slice ra fl rc) (by omega) (BoxC.oth (i := 1) (v := .slice ka kl kc) (by omega) (BoxC.oth (i := 0) (v := .int .i64 (t : Int)) (by omega) z5.out))))))
  have H9 := Lib.hid (show w3.grownBy (((((w3.setCell ⟨N, 0, none⟩ (.int .i64 (t : Int))).setCell ⟨N, 1, none⟩ (.slice ka kl kc)).setCell ⟨N, 2, none⟩ (.slice ra fl rc)).setCell ⟨N, 3, none⟩ (.int .i64 (e : Int))).setCell ⟨N, 4, none⟩ (.int .i64 (s : Int))) (some N) from oth_trans (oth_set _ _ _ _) (oth_trans (oth_set _ _ _ _) (oth_trans (oth_set _ _ _ _) (oth_trans (oth_set _ _ _ _) (oth_set _ _ _ _)))))
  have HB9 := Lib.hid ((((((Below.refl N w3).setCell (p := ⟨N, 0, none⟩) (Nat.le_refl _) (.int .i64 (t : Int))).setCell (p := ⟨N, 1, none⟩) (Nat.le_refl _) (.slice ka kl kc)).setCell (p := ⟨N, 2, none⟩) (Nat.le_refl _) (.slice ra fl rc)).setCell (p := ⟨N, 3, none⟩) (Nat.le_refl _) (.int .i64 (e : Int))).setCell (p := ⟨N, 4, none⟩) (Nat.le_refl _) (.int .i64 (s : Int)))
  have Z4 := Lib.hid z4
  have NO8 := Lib.hid (show ∀ (i : Nat) (x : Int), (#[.int .i64 (t : Int), .slice ka kl kc, .slice ra fl rc, .int .i64 (e : Int), .int .i64 (s : Int)] : Array Value)[i]? ≠ some (.int .u8 x) by
    intro i x h
    match i, h with
    | 0, h => simp at h
    | 1, h => simp at h
    | 2, h => simp at h
    | 3, h => simp at h
    | 4, h => simp at h
    | i + 5, h => simp at h)
  have NO0 := Lib.hid (show ∀ (i : Nat) (x : Int), (#[.int .i64 0, .slice none 0 0, .slice none 0 0, .int .i64 0, .int .i64 0] : Array Value)[i]? ≠ some (.int .u8 x) by
    intro i x h
    match i, h with
    | 0, h => simp at h
    | 1, h => simp at h
    | 2, h => simp at h
    | 3, h => simp at h
    | 4, h => simp at h
    | i + 5, h => simp at h)
  clear z4 r3 g3 e1 X42 X52 HB2 HT
  go_upto_region 4 with (fail)
  clear x0 x1 x2 x3 x4 f0 f1 f2 f3 f4
  generalize (((((w3.setCell ⟨N, 0, none⟩ (.int .i64 (t : Int))).setCell ⟨N, 1, none⟩ (.slice ka kl kc)).setCell ⟨N, 2, none⟩ (.slice ra fl rc)).setCell ⟨N, 3, none⟩ (.int .i64 (e : Int))).setCell ⟨N, 4, none⟩ (.int .i64 (s : Int))) = w4 at *
  have hNB : N + 1 < B := by omega
  have hd : Below w4.heap.size w4 w4.drew := (Below.refl _ _).drew
  have FQ := Lib.hid (show (RdX N B #[.int .i64 (t : Int), .slice ka kl kc, .slice ra fl rc, .int .i64 (e : Int), .int .i64 (s : Int)] 137 w4 (fun X => X.ownsRow (N + 1 + 1) 5 1 (.slice ka kl kc) kl (iv .u8 k) ∧ RowsO X (N + 1 + 1) fs (.slice ra fl rc)) R3) w4.drew from RdX.below ⟨Y4.out, ⟨0, Y5.out⟩, Below.refl _ _, ⟨own_oth HK3.out (by omega) H9.out, HW3.out.oth (by omega) H9.out⟩, R3'.out.setbox Z4.out NO0.out (by omega) H9.out, Nat.le_trans hs3 H9.out.size⟩ (fun X X' b h => ⟨own_below h.1 b, h.2.below b⟩) hd)
  have HBA := Lib.hid (show Below N w w4 from by have := HB3.out; rw [HN.out] at this; exact this.trans HB9.out)
  clear hd Y4 Y5 H9 HB9 R3' z5 HB3 Z4
  by_cases hz : R3 = []
  · have HX := Lib.hid (readP_3 (by rw [E1.out, hz] : plP L = some (_, [])))
    refine wp_region_held_drew (S := (RdX N B #[.int .i64 (t : Int), .slice ka kl kc, .slice ra fl rc, .int .i64 (e : Int), .int .i64 (s : Int)] 137 w4 (fun X => X.ownsRow (N + 1 + 1) 5 1 (.slice ka kl kc) kl (iv .u8 k) ∧ RowsO X (N + 1 + 1) fs (.slice ra fl rc)) R3)) (by kernel_rfl) (FQ.out) (fun hHeld => ?_)
    refine wpAnyH_take (i := 0) (oi := { dst := some 13, op := Op.load 137 (Operand.tmp 4), type := 137, pos := "forms.go:32", after := #[], guard := none }) (v := ?_) rfl (by kernel_rfl) (by kernel_rfl) (by kernel_rfl) (fun _ _ _ h => put84 (i := 13) (by decide) h) (Or.inl ⟨by rfl, ?_⟩) (by assumption) ?_
    rotate_left
    · intro W hSw; obtain ⟨z4, _⟩ := hSw; have y0 := z4.cell 0; have y1 := z4.cell 1; have y2 := z4.cell 2; have y3 := z4.cell 3; have y4 := z4.cell 4; simp only [List.getElem?_toArray, List.getElem?_cons_zero, List.getElem?_cons_succ] at y0 y1 y2 y3 y4; go_simp; try with_reducible rfl
    try simp only [Act.put, List.setIfInBounds_toArray, List.set_cons_zero, List.set_cons_succ]
    refine wpAnyH_take (i := 1) (oi := { dst := some 14, op := Op.move (Operand.tmp 6), type := 116, pos := "forms.go:32", after := #[], guard := none }) (v := ?_) rfl (by kernel_rfl) (by kernel_rfl) (by kernel_rfl) (fun _ _ _ h => put84 (i := 14) (by decide) h) (Or.inl ⟨by rfl, ?_⟩) (by assumption) ?_
    rotate_left
    · intro W hSw; go_simp; try with_reducible rfl
    try simp only [Act.put, List.setIfInBounds_toArray, List.set_cons_zero, List.set_cons_succ]
    refine a1 2 rfl (fun K hK => ?_)
    go_simp
    have HEN := Lib.hid (end_law hHeld.rds)
    rw [if_pos hz] at HEN
    refine (HEN.out).mono ?_; rintro e9 w5 ⟨rfl, hb3⟩
    go_wp2_with fail
    refine hK.out _ _ (hHeld.below (fun X X' b h => ⟨own_below h.1 b, h.2.below b⟩) hb3) (fun hHeldn => ?_)
    clear hK K hHeld; have hHeld := hHeldn; clear hHeldn
    try simp only [Act.put, List.setIfInBounds_toArray, List.set_cons_zero, List.set_cons_succ]
    refine a1 3 rfl (fun K hK => ?_)
    go_simp
    refine (must_errno_ok _ _).mono ?_; rintro e9 w6 ⟨rfl, rfl⟩
    go_wp2_with fail
    refine hK.out _ _ (hHeld) (fun hHeldn => ?_)
    clear hK K hHeld; have hHeld := hHeldn; clear hHeldn
    try simp only [Act.put, List.setIfInBounds_toArray, List.set_cons_zero, List.set_cons_succ]
    refine a1 4 rfl (fun K hK => ?_)
    have hHc := hHeld
    obtain ⟨z4, ⟨y9, z5⟩, zb, zp, zr, zs⟩ := hHeld
    have y0 := z4.cell 0; have y1 := z4.cell 1; have y2 := z4.cell 2; have y3 := z4.cell 3; have y4 := z4.cell 4; simp only [List.getElem?_toArray, List.getElem?_cons_zero, List.getElem?_cons_succ] at y0 y1 y2 y3 y4
    have f0 := z4.frozen 0; have f1 := z4.frozen 1; have f2 := z4.frozen 2; have f3 := z4.frozen 3; have f4 := z4.frozen 4
    have SP4 := Lib.hid (rdx4 hHc hNB NO8.out (oth_trans (oth_set _ _ _ _) (oth_trans (oth_set _ _ _ _) (oth_trans (oth_set _ _ _ _) (oth_trans (oth_set _ _ _ _) (oth_set _ _ _ _))))) (((((hHc.b4.put 0 (.int .i64 (t : Int))).put 1 (.slice ka kl kc)).put 2 (.slice ra fl rc)).put 3 (.int .i64 (e : Int))).put 4 (.int .i64 (s : Int))) (((((hHc.bel.setCell (p := ⟨N, 0, none⟩) (Nat.le_refl _) (.int .i64 (t : Int))).setCell (p := ⟨N, 1, none⟩) (Nat.le_refl _) (.slice ka kl kc)).setCell (p := ⟨N, 2, none⟩) (Nat.le_refl _) (.slice ra fl rc)).setCell (p := ⟨N, 3, none⟩) (Nat.le_refl _) (.int .i64 (e : Int))).setCell (p := ⟨N, 4, none⟩) (Nat.le_refl _) (.int .i64 (s : Int))) ⟨own_oth (B := N) zp.1 (by omega) (oth_trans (oth_set _ _ _ _) (oth_trans (oth_set _ _ _ _) (oth_trans (oth_set _ _ _ _) (oth_trans (oth_set _ _ _ _) (oth_set _ _ _ _))))), zp.2.oth (B := N) (by omega) (oth_trans (oth_set _ _ _ _) (oth_trans (oth_set _ _ _ _) (oth_trans (oth_set _ _ _ _) (oth_trans (oth_set _ _ _ _) (oth_set _ _ _ _)))))⟩)
    clear hHc z4 z5 zb zp zr zs
    go_simp
    refine hK.out _ _ SP4.out (fun hHeldn => ?_)
    clear hK K y0 y1 y2 y3 y4 f0 f1 f2 f3 f4 SP4; have hHeld := hHeldn; clear hHeldn
    try simp only [Act.put, List.setIfInBounds_toArray, List.set_cons_zero, List.set_cons_succ]
    refine a1 5 rfl (fun K hK => ?_)
    have hHc := hHeld
    obtain ⟨z4, ⟨y8, z5⟩, zb, zp, zr, zs⟩ := hHeld
    have y0 := z5.cell 0; have f0 := z5.frozen 0; simp only [List.getElem?_toArray, List.getElem?_cons_zero, List.getElem?_cons_succ] at y0
    have SP5 := Lib.hid (rdx5 hHc hNB (⟨own_oth (B := N + 1) zp.1 (by omega) (oth_set _ _ _ _), zp.2.oth (B := N + 1) (by omega) (oth_set _ _ _ _)⟩))
    have Z5 := Lib.hid (z5.put 0 (.int .i64 0))
    clear hHc z4 z5 zb zp zr zs
    go_simp
    refine hK.out _ _ SP5.out (fun hHeldn => ?_)
    clear hK K y0 f0 SP5; have hHeld := hHeldn; clear hHeldn
    try simp only [Act.put, List.setIfInBounds_toArray, List.set_cons_zero, List.set_cons_succ]
    refine wpAnyH_done (by kernel_rfl) ?_ _
    skip
    generalize ((((((w5.setCell ⟨N, 0, none⟩ (.int .i64 (t : Int))).setCell ⟨N, 1, none⟩ (.slice ka kl kc)).setCell ⟨N, 2, none⟩ (.slice ra fl rc)).setCell ⟨N, 3, none⟩ (.int .i64 (e : Int))).setCell ⟨N, 4, none⟩ (.int .i64 (s : Int))).setCell ⟨N + 1, 0, none⟩ (.int .i64 0)) = W9 at *
    obtain ⟨q4, _, qb, qw, _, qs⟩ := hHeld
    have y0 := q4.cell 0
    have y1 := q4.cell 1
    have y2 := q4.cell 2
    have y3 := q4.cell 3
    have y4 := q4.cell 4
    have y99 := Z5.out.cell 0
    simp at y0 y1 y2 y3 y4 y99
    go_wp2_with fail
    refine leaves_cons (f := 125) (args := #[.pointer (some ⟨N, 0, none⟩), .pointer (some ⟨N + 1, 0, none⟩)]) (by simp) (by simp [go_sem]) ?_
    refine (catchpl_idle N (N + 1) _).mono ?_
    rintro e9 u' w9 ⟨rfl, rfl, rfl⟩
    have HE := Lib.hid (show RdPl w (readP (plP L)) (.returned (.tuple #[.agg #[.int .i64 (t : Int), .slice ka kl kc, .slice ra fl rc, .int .i64 (e : Int), .int .i64 (s : Int)], .int .i64 0])) w9 from ⟨.inr ⟨_, _, HX.out, rfl, ⟨ka, kc, ra, rc, by simp only [HKL.out, HFL.out], by rw [HN.out]; simp only; rw [HKL.out]; exact own_base (by omega) qw.1, by rw [HN.out]; simp only; rw [HFL.out]; exact qw.2.base (by omega)⟩⟩, by rw [HN.out]; exact HBA.out.trans qb⟩)
    clear q4 qb qw qs Z5
    simp [Leaves, settle, results, Tryz.results80, go_sem, y0, y1, y2, y3, y4, y99]
    exact HE.out
  · have HX := Lib.hid (readP_2 E1.out hz)
    refine wp_region_held_drew (S := (RdX N B #[.int .i64 (t : Int), .slice ka kl kc, .slice ra fl rc, .int .i64 (e : Int), .int .i64 (s : Int)] 137 w4 (fun X => X.ownsRow (N + 1 + 1) 5 1 (.slice ka kl kc) kl (iv .u8 k) ∧ RowsO X (N + 1 + 1) fs (.slice ra fl rc)) R3)) (by kernel_rfl) (FQ.out) (fun hHeld => ?_)
    refine wpAnyH_take (i := 0) (oi := { dst := some 13, op := Op.load 137 (Operand.tmp 4), type := 137, pos := "forms.go:32", after := #[], guard := none }) (v := ?_) rfl (by kernel_rfl) (by kernel_rfl) (by kernel_rfl) (fun _ _ _ h => put84 (i := 13) (by decide) h) (Or.inl ⟨by rfl, ?_⟩) (by assumption) ?_
    rotate_left
    · intro W hSw; obtain ⟨z4, _⟩ := hSw; have y0 := z4.cell 0; have y1 := z4.cell 1; have y2 := z4.cell 2; have y3 := z4.cell 3; have y4 := z4.cell 4; simp only [List.getElem?_toArray, List.getElem?_cons_zero, List.getElem?_cons_succ] at y0 y1 y2 y3 y4; go_simp; try with_reducible rfl
    try simp only [Act.put, List.setIfInBounds_toArray, List.set_cons_zero, List.set_cons_succ]
    refine wpAnyH_take (i := 1) (oi := { dst := some 14, op := Op.move (Operand.tmp 6), type := 116, pos := "forms.go:32", after := #[], guard := none }) (v := ?_) rfl (by kernel_rfl) (by kernel_rfl) (by kernel_rfl) (fun _ _ _ h => put84 (i := 14) (by decide) h) (Or.inl ⟨by rfl, ?_⟩) (by assumption) ?_
    rotate_left
    · intro W hSw; go_simp; try with_reducible rfl
    try simp only [Act.put, List.setIfInBounds_toArray, List.set_cons_zero, List.set_cons_succ]
    refine a1 2 rfl (fun K hK => ?_)
    go_simp
    have HEN := Lib.hid (end_law hHeld.rds)
    rw [if_neg hz] at HEN
    refine (HEN.out).mono ?_; rintro e9 w5 ⟨rfl, hb3⟩
    go_wp2_with fail
    refine hK.out _ _ (hHeld.below (fun X X' b h => ⟨own_below h.1 b, h.2.below b⟩) hb3) (fun hHeldn => ?_)
    clear hK K hHeld; have hHeld := hHeldn; clear hHeldn
    try simp only [Act.put, List.setIfInBounds_toArray, List.set_cons_zero, List.set_cons_succ]
    refine a1 3 rfl (fun K hK => ?_)
    go_simp
    refine (must_errno_no _ 4 (by decide) _).mono ?_; rintro e9 w6 ⟨rfl, rfl⟩
    go_wp2_with fail
    obtain ⟨q4, ⟨y9, q5⟩, qb, _, _, _⟩ := hHeld
    have HQB := Lib.hid qb
    refine leaves_cons (f := 125) (args := #[.pointer (some ⟨N, 0, none⟩), .pointer (some ⟨N + 1, 0, none⟩)]) (by simp) (by simp [go_sem]) ?_
    refine (catchpl_panic (N := N) (b4 := N) (b5 := N + 1) (x4 := q4) (x5 := q5) (hne := by omega) (h4 := Nat.le_refl _) (h5 := by omega)).mono ?_
    rintro e9 u' w9 ⟨rfl, rfl, q4, q5, HB9⟩
    have y0 := q4.cell 0
    have y1 := q4.cell 1
    have y2 := q4.cell 2
    have y3 := q4.cell 3
    have y4 := q4.cell 4
    have y99 := q5.cell 0
    simp only [List.getElem?_toArray, List.getElem?_cons_zero, List.getElem?_cons_succ] at y0 y1 y2 y3 y4 y99
    have HE := Lib.hid (show RdPl w (readP (plP L)) (.returned (.tuple #[.agg #[.int .i64 0, .slice none 0 0, .slice none 0 0, .int .i64 0, .int .i64 0], .int .i64 4])) w9 from ⟨.inl ⟨HX.out, rfl⟩, by rw [HN.out]; exact (HBA.out.trans HQB.out).trans HB9⟩)
    simp [Leaves, settle, caughtP, results, Tryz.results80, go_sem, y0, y1, y2, y3, y4, y99]
    exact HE.out
end Go.Proofs.YtglkndoghnblcaaGreatDoor
namespace Go.Proofs.YtglkndoghnblcaaGreatDoor
open Go.ChangeShapes Go.WideShapes Go.ChangeAt Go.RowKit
set_option linter.unusedVariables false
set_option linter.unusedSimpArgs false
set_option maxRecDepth 100000 in
set_option maxHeartbeats 4000000 in
/-- sure (102), where nothing was read. -/
theorem suremn_no (x : Int) (o0 : Int) (o1 : ByteArray) (o2 : Int) (o3 : Int) (o4a : Option Addr) (o4n o4c : Nat) (hx : ¬ x = 0) (w : World) :
    Calls Tryz.prog 69 #[.agg #[.int .i64 o0, .string o1, .int .i64 o2, .int .i64 o3, .slice o4a o4n o4c], .int .i64 x, .func (.func 40) #[] #[]] w fun r w' => r = .returned (.tuple #[.agg #[.int .i64 0, .string { data := #[] }, .int .i64 0, .int .i64 0, .slice none 0 0], .int .i64 4]) ∧ Below w.heap.size w w' := by
  have h1 : (x != 0) = true := by simp [hx]
  have h2 : (x == 0) = false := by simp [hx]
  go_enter Tryz.func69, Tryz.ntmps69
  go_upto_region 1 with (fail)
  obtain ⟨W1, hW1⟩ : ∃ W1, (w.alloc (.cells #[.int .i64 o0, .string o1, .int .i64 o2, .int .i64 o3, .slice o4a o4n o4c] 39)).alloc (.cells #[.int .i64 0, .string { data := #[] }, .int .i64 0, .int .i64 0, .slice none 0 0] 39) = W1 := ⟨_, rfl⟩
  have hb1 : Below w.heap.size w W1 := by rw [← hW1]; exact step_below (bl1 _ _) (bl1 _ _)
  have x3 : BoxC W1 w.heap.size #[.int .i64 o0, .string o1, .int .i64 o2, .int .i64 o3, .slice o4a o4n o4c] 39 := by rw [← hW1]; exact (BoxC.new _ _ _).alloc _
  have x6 : BoxC W1 (w.heap.size + 1) #[.int .i64 0, .string { data := #[] }, .int .i64 0, .int .i64 0, .slice none 0 0] 39 := by rw [← hW1]; have := BoxC.new (w.alloc (.cells #[.int .i64 o0, .string o1, .int .i64 o2, .int .i64 o3, .slice o4a o4n o4c] 39)) #[.int .i64 0, .string { data := #[] }, .int .i64 0, .int .i64 0, .slice none 0 0] 39; simpa using this
  have hs1 : W1.heap.size = w.heap.size + 1 + 1 := by rw [← hW1]; simp
  try rw [hW1]
  clear hW1
  have HB1 := Lib.hid hb1
  clear hb1 x3
  obtain ⟨N, hN⟩ : ∃ N, w.heap.size = N := ⟨_, rfl⟩
  rw [hN] at x6 hs1 ⊢
  have HN := Lib.hid hN
  go_upto_region 3 with (fail)
  obtain ⟨W2, hW2⟩ : ∃ W2, W1.alloc (.cells #[.int .i64 0, .string { data := #[] }, .int .i64 0, .int .i64 0, .slice none 0 0] 39) = W2 := ⟨_, rfl⟩
  have hb2 : Below W1.heap.size W1 W2 := by rw [← hW2]; exact bl1 _ _
  have x8 : BoxC W2 W1.heap.size #[.int .i64 0, .string { data := #[] }, .int .i64 0, .int .i64 0, .slice none 0 0] 39 := by rw [← hW2]; exact BoxC.new _ _ _
  try rw [hW2]
  clear hW2
  have x62 := x6.below hb2
  have y0 := x8.cell 0
  have d0 := x62.cell 0
  have f0 := x62.frozen 0
  have y1 := x8.cell 1
  have d1 := x62.cell 1
  have f1 := x62.frozen 1
  have y2 := x8.cell 2
  have d2 := x62.cell 2
  have f2 := x62.frozen 2
  have y3 := x8.cell 3
  have d3 := x62.cell 3
  have f3 := x62.frozen 3
  have y4 := x8.cell 4
  have d4 := x62.cell 4
  have f4 := x62.frozen 4
  simp only [List.getElem?_toArray, List.getElem?_cons_zero, List.getElem?_cons_succ] at y0 y1 y2 y3 y4 d0 d1 d2 d3 d4
  try rw [hs1] at y0 y1 y2 y3 y4
  have X9 := Lib.hid (((((x62.put 0 (.int .i64 0)).put 1 (.string { data := #[] })).put 2 (.int .i64 0)).put 3 (.int .i64 0)).put 4 (.slice none 0 0))
  have HB9 := Lib.hid ((((((step_below HB1.out hb2).setCell (p := ⟨N + 1, 0, none⟩) (by simp; omega) (.int .i64 0)).setCell (p := ⟨N + 1, 1, none⟩) (by simp; omega) (.string { data := #[] })).setCell (p := ⟨N + 1, 2, none⟩) (by simp; omega) (.int .i64 0)).setCell (p := ⟨N + 1, 3, none⟩) (by simp; omega) (.int .i64 0)).setCell (p := ⟨N + 1, 4, none⟩) (by simp; omega) (.slice none 0 0))
  clear x62 x8 hb2
  go_wp2_with fail
  clear y0 y1 y2 y3 y4 d0 d1 d2 d3 d4 f0 f1 f2 f3 f4
  generalize (((((W2.setCell ⟨N + 1, 0, none⟩ (.int .i64 0)).setCell ⟨N + 1, 1, none⟩ (.string { data := #[] })).setCell ⟨N + 1, 2, none⟩ (.int .i64 0)).setCell ⟨N + 1, 3, none⟩ (.int .i64 0)).setCell ⟨N + 1, 4, none⟩ (.slice none 0 0)) = W9 at *
  refine bodyPost_ret (v := .tuple #[.agg #[.int .i64 0, .string { data := #[] }, .int .i64 0, .int .i64 0, .slice none 0 0], .int .i64 4]) ?_ rfl ⟨rfl, by first | exact HB9.out | (rw [← HN.out]; exact HB9.out)⟩
  have x0 := X9.out.cell 0
  have x1 := X9.out.cell 1
  have x2 := X9.out.cell 2
  have x3 := X9.out.cell 3
  have x4 := X9.out.cell 4
  simp at x0 x1 x2 x3 x4
  simp [results, Tryz.results69, go_sem, x0, x1, x2, x3, x4]
set_option maxRecDepth 100000 in
set_option maxHeartbeats 4000000 in
/-- sure (102), where one was read. -/
theorem suremn_law (o0 : Int) (o1 : ByteArray) (o2 : Int) (o3 : Int) (o4a : Option Addr) (o4n o4c : Nat) (b : Bool) (w : World) (hM : ∀ W, Below w.heap.size w W → Calls Tryz.prog 40 #[.agg #[.int .i64 o0, .string o1, .int .i64 o2, .int .i64 o3, .slice o4a o4n o4c]] W fun r w' => r = .returned (.bool b) ∧ Below W.heap.size W w') :
    Calls Tryz.prog 69 #[.agg #[.int .i64 o0, .string o1, .int .i64 o2, .int .i64 o3, .slice o4a o4n o4c], .int .i64 0, .func (.func 40) #[] #[]] w fun r w' => (r = .returned (if b then .tuple #[.agg #[.int .i64 o0, .string o1, .int .i64 o2, .int .i64 o3, .slice o4a o4n o4c], .int .i64 0] else .tuple #[.agg #[.int .i64 0, .string { data := #[] }, .int .i64 0, .int .i64 0, .slice none 0 0], .int .i64 4])) ∧ Below w.heap.size w w' := by
  have HM := Lib.hid hM
  clear hM
  go_enter Tryz.func69, Tryz.ntmps69
  go_upto_region 1 with (fail)
  obtain ⟨W1, hW1⟩ : ∃ W1, (w.alloc (.cells #[.int .i64 o0, .string o1, .int .i64 o2, .int .i64 o3, .slice o4a o4n o4c] 39)).alloc (.cells #[.int .i64 0, .string { data := #[] }, .int .i64 0, .int .i64 0, .slice none 0 0] 39) = W1 := ⟨_, rfl⟩
  have hb1 : Below w.heap.size w W1 := by rw [← hW1]; exact step_below (bl1 _ _) (bl1 _ _)
  have x3 : BoxC W1 w.heap.size #[.int .i64 o0, .string o1, .int .i64 o2, .int .i64 o3, .slice o4a o4n o4c] 39 := by rw [← hW1]; exact (BoxC.new _ _ _).alloc _
  have x6 : BoxC W1 (w.heap.size + 1) #[.int .i64 0, .string { data := #[] }, .int .i64 0, .int .i64 0, .slice none 0 0] 39 := by rw [← hW1]; have := BoxC.new (w.alloc (.cells #[.int .i64 o0, .string o1, .int .i64 o2, .int .i64 o3, .slice o4a o4n o4c] 39)) #[.int .i64 0, .string { data := #[] }, .int .i64 0, .int .i64 0, .slice none 0 0] 39; simpa using this
  have hs1 : W1.heap.size = w.heap.size + 1 + 1 := by rw [← hW1]; simp
  try rw [hW1]
  clear hW1
  have HB1 := Lib.hid hb1
  have HC := Lib.hid (HM.out W1 hb1)
  have c0 := x3.cell 0
  have c1 := x3.cell 1
  have c2 := x3.cell 2
  have c3 := x3.cell 3
  have c4 := x3.cell 4
  simp only [List.getElem?_toArray, List.getElem?_cons_zero, List.getElem?_cons_succ] at c0 c1 c2 c3 c4
  have X3 := Lib.hid x3
  have X6 := Lib.hid x6
  clear hb1 x3 x6 HM
  cases b with
  | false =>
    go_wp2_with fail
    refine HC.out.mono ?_; rintro r w3 ⟨rfl, b3⟩
    have HB3 := Lib.hid (step_below HB1.out b3)
    have x63 := X6.out.below b3
    have hs3 : w.heap.size + 1 + 1 ≤ w3.heap.size := by rw [← hs1]; exact b3.size
    clear c0 c1 c2 c3 c4 b3 HC
    obtain ⟨N, hN⟩ : ∃ N, w.heap.size = N := ⟨_, rfl⟩
    rw [hN] at x63 hs1 hs3 ⊢
    have HN := Lib.hid hN
    go_upto_region 3 with (fail)
    obtain ⟨W2, hW2⟩ : ∃ W2, w3.alloc (.cells #[.int .i64 0, .string { data := #[] }, .int .i64 0, .int .i64 0, .slice none 0 0] 39) = W2 := ⟨_, rfl⟩
    have hb2 : Below w3.heap.size w3 W2 := by rw [← hW2]; exact bl1 _ _
    have x8 : BoxC W2 w3.heap.size #[.int .i64 0, .string { data := #[] }, .int .i64 0, .int .i64 0, .slice none 0 0] 39 := by rw [← hW2]; exact BoxC.new _ _ _
    try rw [hW2]
    clear hW2
    have x62 := x63.below hb2
    have y0 := x8.cell 0
    have d0 := x62.cell 0
    have f0 := x62.frozen 0
    have y1 := x8.cell 1
    have d1 := x62.cell 1
    have f1 := x62.frozen 1
    have y2 := x8.cell 2
    have d2 := x62.cell 2
    have f2 := x62.frozen 2
    have y3 := x8.cell 3
    have d3 := x62.cell 3
    have f3 := x62.frozen 3
    have y4 := x8.cell 4
    have d4 := x62.cell 4
    have f4 := x62.frozen 4
    simp only [List.getElem?_toArray, List.getElem?_cons_zero, List.getElem?_cons_succ] at y0 y1 y2 y3 y4 d0 d1 d2 d3 d4
    try rw [hs1] at y0 y1 y2 y3 y4
    have X9 := Lib.hid (((((x62.put 0 (.int .i64 0)).put 1 (.string { data := #[] })).put 2 (.int .i64 0)).put 3 (.int .i64 0)).put 4 (.slice none 0 0))
    have HB9 := Lib.hid ((((((step_below HB3.out hb2).setCell (p := ⟨N + 1, 0, none⟩) (by simp; omega) (.int .i64 0)).setCell (p := ⟨N + 1, 1, none⟩) (by simp; omega) (.string { data := #[] })).setCell (p := ⟨N + 1, 2, none⟩) (by simp; omega) (.int .i64 0)).setCell (p := ⟨N + 1, 3, none⟩) (by simp; omega) (.int .i64 0)).setCell (p := ⟨N + 1, 4, none⟩) (by simp; omega) (.slice none 0 0))
    clear x62 x8 hb2
    go_wp2_with fail
    clear y0 y1 y2 y3 y4 d0 d1 d2 d3 d4 f0 f1 f2 f3 f4
    generalize (((((W2.setCell ⟨N + 1, 0, none⟩ (.int .i64 0)).setCell ⟨N + 1, 1, none⟩ (.string { data := #[] })).setCell ⟨N + 1, 2, none⟩ (.int .i64 0)).setCell ⟨N + 1, 3, none⟩ (.int .i64 0)).setCell ⟨N + 1, 4, none⟩ (.slice none 0 0)) = W9 at *
    refine bodyPost_ret (v := .tuple #[.agg #[.int .i64 0, .string { data := #[] }, .int .i64 0, .int .i64 0, .slice none 0 0], .int .i64 4]) ?_ rfl ⟨by simp, by first | exact HB9.out | (rw [← HN.out]; exact HB9.out)⟩
    have x0 := X9.out.cell 0
    have x1 := X9.out.cell 1
    have x2 := X9.out.cell 2
    have x3 := X9.out.cell 3
    have x4 := X9.out.cell 4
    simp at x0 x1 x2 x3 x4
    simp [results, Tryz.results69, go_sem, x0, x1, x2, x3, x4]
  | true =>
    go_wp2_with fail
    refine HC.out.mono ?_; rintro r w3 ⟨rfl, b3⟩
    have HB3 := Lib.hid (step_below HB1.out b3)
    have x63 := X6.out.below b3
    have x33 := X3.out.below b3
    clear c0 c1 c2 c3 c4 b3 HC
    have y0 := x33.cell 0
    have d0 := x63.cell 0
    have f0 := x63.frozen 0
    have y1 := x33.cell 1
    have d1 := x63.cell 1
    have f1 := x63.frozen 1
    have y2 := x33.cell 2
    have d2 := x63.cell 2
    have f2 := x63.frozen 2
    have y3 := x33.cell 3
    have d3 := x63.cell 3
    have f3 := x63.frozen 3
    have y4 := x33.cell 4
    have d4 := x63.cell 4
    have f4 := x63.frozen 4
    simp only [List.getElem?_toArray, List.getElem?_cons_zero, List.getElem?_cons_succ] at y0 y1 y2 y3 y4 d0 d1 d2 d3 d4
    have X9 := Lib.hid (((((x63.put 0 (.int .i64 o0)).put 1 (.string o1)).put 2 (.int .i64 o2)).put 3 (.int .i64 o3)).put 4 (.slice o4a o4n o4c))
    have HB9 := Lib.hid (((((HB3.out.setCell (p := ⟨w.heap.size + 1, 0, none⟩) (by simp) (.int .i64 o0)).setCell (p := ⟨w.heap.size + 1, 1, none⟩) (by simp) (.string o1)).setCell (p := ⟨w.heap.size + 1, 2, none⟩) (by simp) (.int .i64 o2)).setCell (p := ⟨w.heap.size + 1, 3, none⟩) (by simp) (.int .i64 o3)).setCell (p := ⟨w.heap.size + 1, 4, none⟩) (by simp) (.slice o4a o4n o4c))
    clear x63 x33
    go_wp2_with fail
    clear y0 y1 y2 y3 y4 d0 d1 d2 d3 d4 f0 f1 f2 f3 f4
    generalize (((((w3.setCell ⟨w.heap.size + 1, 0, none⟩ (.int .i64 o0)).setCell ⟨w.heap.size + 1, 1, none⟩ (.string o1)).setCell ⟨w.heap.size + 1, 2, none⟩ (.int .i64 o2)).setCell ⟨w.heap.size + 1, 3, none⟩ (.int .i64 o3)).setCell ⟨w.heap.size + 1, 4, none⟩ (.slice o4a o4n o4c)) = W9 at *
    refine bodyPost_ret (v := .tuple #[.agg #[.int .i64 o0, .string o1, .int .i64 o2, .int .i64 o3, .slice o4a o4n o4c], .int .i64 0]) ?_ rfl ⟨by simp, HB9.out⟩
    have x0 := X9.out.cell 0
    have x1 := X9.out.cell 1
    have x2 := X9.out.cell 2
    have x3 := X9.out.cell 3
    have x4 := X9.out.cell 4
    simp at x0 x1 x2 x3 x4
    simp [results, Tryz.results69, go_sem, x0, x1, x2, x3, x4]
end Go.Proofs.YtglkndoghnblcaaGreatDoor
namespace Go.Proofs.YtglkndoghnblcaaGreatDoor
open Go.ChangeShapes Go.WideShapes Go.ChangeAt Go.RowKit
set_option linter.unusedVariables false
set_option linter.unusedSimpArgs false
theorem str_size (L : List Int) : (strOfNums L).size = L.length := by simp [strOfNums, ByteArray.size]
def lpN (x : Pt2) : LpV := (strOfNums x.1, (x.2 : Int))
theorem pcells_at : ∀ (xs : List Pt2) (k : Nat) (x : Pt2), xs[k]? = some x → (pcells xs)[k * 2]? = some (.string (strOfNums x.1)) ∧ (pcells xs)[k * 2 + 1]? = some (.int .i64 (x.2 : Int))
  | [], k, x, h => by simp at h
  | y :: xs, 0, x, h => by
    simp only [List.getElem?_cons_zero, Option.some.injEq] at h
    subst h
    exact ⟨rfl, rfl⟩
  | y :: xs, k + 1, x, h => by
    simp only [List.getElem?_cons_succ] at h
    obtain ⟨h1, h2⟩ := pcells_at xs k x h
    refine ⟨?_, ?_⟩
    · rw [show (k + 1) * 2 = k * 2 + 1 + 1 by omega]; exact h1
    · rw [show (k + 1) * 2 + 1 = k * 2 + 1 + 1 + 1 by omega]; exact h2
/-- Parts that were read, as they lie. -/
theorem PartsO.lies {w : World} {base n c : Nat} {a : Option Addr} {xs : List Pt2} (h : PartsO w base xs (.slice a n c)) : n = xs.length ∧ n ≤ c ∧ LpsR w a (xs.map lpN) := by
  have h2 : w.ownsRow base 42 2 (.slice a n c) xs.length (pcells xs) := h
  have h2' := h2
  rcases h2.2 with ⟨e0, h0⟩ | ⟨g, cap, cur, e0, _, _, hc, _⟩
  · cases e0
    have : xs = [] := List.length_eq_zero_iff.1 h0
    subst this
    exact ⟨rfl, Nat.le_refl _, fun k x hx => by simp at hx⟩
  · cases e0
    refine ⟨rfl, hc, fun k x hx => ?_⟩
    rw [List.getElem?_map] at hx
    cases hy : xs[k]? with
    | none => rw [hy] at hx; cases hx
    | some y =>
      rw [hy] at hx
      cases hx
      have hk : k < xs.length := (List.getElem?_eq_some_iff.1 hy).1
      obtain ⟨p1, p2⟩ := pcells_at xs k y hy
      refine ⟨g, 0, rfl, ?_, ?_⟩
      · rw [Nat.zero_add, h2'.cellAt (k * 2) (by omega)]; exact p1
      · rw [Nat.zero_add, h2'.cellAt (k * 2 + 1) (by omega)]; exact p2
structure MnB (x : Mn) : Prop where
  nl : x.nm.length ≤ 24
  ll : x.logs.length ≤ 32
  all : ∀ y ∈ x.logs, y.1.length ≤ 24
theorem partP_all {L r : List Int} {x : Pt2} (hb : Byt L) (h : partP L = some (x, r)) : x.1.length ≤ 24 ∧ Byt r := by
  unfold partP at h
  cases h1 : bytesP 24 L with
  | none => rw [h1] at h; cases h
  | some p =>
    obtain ⟨b, r1⟩ := p
    rw [h1] at h
    simp only at h
    obtain ⟨_, b2, b3⟩ := bytesP_all hb h1
    cases h2 : upP 16777215 r1 with
    | none => rw [h2] at h; cases h
    | some p =>
      obtain ⟨t, r2⟩ := p
      rw [h2] at h
      cases h
      exact ⟨b2, upP_rest b3 h2⟩
theorem bindP_inv {α β : Type} {o : Option (α × List Int)} {f : α → List Int → Option β} {y : β} (h : bindP o f = some y) : ∃ x r, o = some (x, r) ∧ f x r = some y := by
  cases o with
  | none => cases h
  | some p => exact ⟨p.1, p.2, rfl, h⟩
theorem manP_all {L r : List Int} {x : Mn} (hb : Byt L) (h : manP L = some (x, r)) : MnB x := by
  unfold manP at h
  obtain ⟨g, r1, h1, h⟩ := bindP_inv h
  obtain ⟨nm, r2, h2, h⟩ := bindP_inv h
  obtain ⟨e, r3, h3, h⟩ := bindP_inv h
  obtain ⟨f, r4, h4, h⟩ := bindP_inv h
  obtain ⟨xs, r5, h5, h⟩ := bindP_inv h
  cases h
  have b1 := upP_rest hb h1
  obtain ⟨_, n2, b2⟩ := bytesP_all b1 h2
  have b3 := upP_rest b2 h3
  have b4 := upP_rest b3 h4
  obtain ⟨q1, q2, _⟩ := listP_all (P := fun y : Pt2 => y.1.length ≤ 24) (fun L x s hb h => partP_all hb h) b4 h5
  exact ⟨n2, q2, q1⟩
/-- A manifest, as bytes tell it. -/
def mnB (x : Mn) : Bool := manB (x.g : Int) (x.e : Int) (x.f : Int) (strOfNums x.nm) (x.logs.map lpN)
def rmanP (L : List Int) : Option Mn := match readP (manP (onlyL L)) with
  | some x => if mnB x then some x else none
  | none => none
theorem rmanP_1 {L : List Int} (h : readP (manP (onlyL L)) = none) : rmanP L = none := by unfold rmanP; rw [h]
theorem rmanP_2 {L : List Int} {x : Mn} (h : readP (manP (onlyL L)) = some x) (k : mnB x = false) : rmanP L = none := by unfold rmanP; rw [h]; simp [k]
theorem rmanP_3 {L : List Int} {x : Mn} (h : readP (manP (onlyL L)) = some x) (k : mnB x = true) : rmanP L = some x := by unfold rmanP; rw [h]; simp [k]
theorem lpN_small {x : Mn} (h : MnB x) : ∀ y ∈ x.logs.map lpN, y.1.size ≤ maxLen := by
  intro y hy
  obtain ⟨z, hz, rfl⟩ := List.mem_map.1 hy
  have := h.all z hz
  simp only [lpN, str_size]
  unfold maxLen
  omega
theorem nm_small {x : Mn} (h : MnB x) : (strOfNums x.nm).size ≤ maxLen := by
  rw [str_size]
  have := h.nl
  unfold maxLen
  omega
/-- mayManifest of what was read. -/
theorem maymn_read {x : Mn} (hb : MnB x) {w : World} {base c : Nat} {a : Option Addr} (h : PartsO w base x.logs (.slice a x.logs.length c)) : ∀ W, Below w.heap.size w W → Calls Tryz.prog 40 #[.agg #[.int .i64 (x.g : Int), .string (strOfNums x.nm), .int .i64 (x.e : Int), .int .i64 (x.f : Int), .slice a x.logs.length c]] W fun r w' => r = .returned (.bool (mnB x)) ∧ Below W.heap.size W w' := by
  intro W b
  obtain ⟨_, h2, h3⟩ := (h.below b).lies
  exact mayman_law (x.g : Int) (x.e : Int) (x.f : Int) (strOfNums x.nm) a (x.logs.map lpN) x.logs.length c (nm_small hb) (lpN_small hb) (by simp) (by have := hb.ll; omega) h2 W h3
end Go.Proofs.YtglkndoghnblcaaGreatDoor
namespace Go.Proofs.YtglkndoghnblcaaGreatDoor
open Go.ChangeShapes Go.WideShapes Go.ChangeAt Go.RowKit
set_option linter.unusedVariables false
set_option linter.unusedSimpArgs false
def RmnR (w : World) (o : Option Mn) (r : Ending) (w' : World) : Prop :=
  ((o = none ∧ r = .returned (.tuple #[.agg #[.int .i64 0, .string { data := #[] }, .int .i64 0, .int .i64 0, .slice none 0 0], .int .i64 4])) ∨ ∃ x v, o = some x ∧ r = .returned (.tuple #[v, .int .i64 0]) ∧ MnO w' w.heap.size x v) ∧ Below w.heap.size w w'
set_option maxRecDepth 100000 in
set_option maxHeartbeats 4000000 in
/-- ReadManifest (36). -/
theorem readman_law (a1 : Option Addr) (L : List Int) (n cap : Nat) (hn : L.length = n) (hn2 : n ≤ 1000000) (hB : Byt L) (w : World) (hL : Ls .u8 w a1 cap L) :
    Calls Tryz.prog 27 #[.slice a1 n cap] w (RmnR w (rmanP L)) := by
  have HO := Lib.hid (fun W (b : Below w.heap.size w W) => only_law a1 L n cap hn hn2 hB W (hL.below b))
  have HBY := Lib.hid (onlyL_byt hB)
  have hol := onlyL_len L
  clear hn hB hL
  go_enter Tryz.func27, Tryz.ntmps27
  go_upto_region 1 with (fail)
  obtain ⟨W1, hW1⟩ : ∃ W1, w.alloc (.cells #[.int .i64 0, .string { data := #[] }, .int .i64 0, .int .i64 0, .slice none 0 0] 39) = W1 := ⟨_, rfl⟩
  have hb1 : Below w.heap.size w W1 := by rw [← hW1]; exact bl1 _ _
  have x0 : BoxC W1 w.heap.size #[.int .i64 0, .string { data := #[] }, .int .i64 0, .int .i64 0, .slice none 0 0] 39 := by rw [← hW1]; exact BoxC.new _ _ _
  have hs1 : w.heap.size + 1 ≤ W1.heap.size := by rw [← hW1]; simp
  try rw [hW1]
  clear hW1
  have HO1 := Lib.hid (HO.out _ hb1)
  have HB1 := Lib.hid hb1
  clear hb1 HO
  go_wp2_with fail
  refine HO1.out.mono ?_
  rintro r w2 ⟨a2, c2, rfl, l2, b2⟩
  obtain ⟨ol, hol2⟩ : ∃ ol, (onlyL L).length = ol := ⟨_, rfl⟩
  rw [hol2] at hol ⊢
  have HR := Lib.hid (readmn_law a2 (onlyL L) ol c2 hol2 (by omega) HBY.out w2 l2)
  have HB2 := Lib.hid b2
  have hs2 : w.heap.size + 1 ≤ w2.heap.size := Nat.le_trans hs1 b2.size
  clear l2 b2 hol2 HO1
  go_wp2_with fail
  refine HR.out.mono ?_
  rintro r w3 ⟨⟨h1, rfl⟩ | ⟨x, v, h1, rfl, hv⟩, b3⟩
  · have HX := Lib.hid (rmanP_1 h1)
    have HB3 := Lib.hid (step_below HB2.out b3)
    clear h1 b3
    go_upto_region 2 with (fail)
    obtain ⟨W4, hW4⟩ : ∃ W4, w3.alloc (.cells #[.int .i64 0, .string { data := #[] }, .int .i64 0, .int .i64 0, .slice none 0 0] 39) = W4 := ⟨_, rfl⟩
    have hb4 : Below w3.heap.size w3 W4 := by rw [← hW4]; exact bl1 _ _
    have x4 : BoxC W4 w3.heap.size #[.int .i64 0, .string { data := #[] }, .int .i64 0, .int .i64 0, .slice none 0 0] 39 := by rw [← hW4]; exact BoxC.new _ _ _
    have q0 := x4.cell 0
    have q1 := x4.cell 1
    have q2 := x4.cell 2
    have q3 := x4.cell 3
    have q4 := x4.cell 4
    simp only [List.getElem?_toArray, List.getElem?_cons_zero, List.getElem?_cons_succ] at q0 q1 q2 q3 q4
    try rw [hW4]
    clear hW4 x4
    have HB4 := Lib.hid (step_below HB3.out hb4)
    clear hb4
    go_wp2_with fail
    refine (suremn_no 4 0 { data := #[] } 0 0 none 0 0 (by decide) W4).mono ?_
    rintro r w5 ⟨rfl, b5⟩
    have b15 := step_below HB4.out b5
    clear q0 q1 q2 q3 q4 b5
    have x3 := x0.below b15
    have z0 := x3.cell 0
    have f0 := x3.frozen 0
    have z1 := x3.cell 1
    have f1 := x3.frozen 1
    have z2 := x3.cell 2
    have f2 := x3.frozen 2
    have z3 := x3.cell 3
    have f3 := x3.frozen 3
    have z4 := x3.cell 4
    have f4 := x3.frozen 4
    simp only [List.getElem?_toArray, List.getElem?_cons_zero, List.getElem?_cons_succ] at z0 z1 z2 z3 z4
    have X9 := Lib.hid (((((x3.put 0 (.int .i64 0)).put 1 (.string { data := #[] })).put 2 (.int .i64 0)).put 3 (.int .i64 0)).put 4 (.slice none 0 0))
    have HB9 := Lib.hid ((((((HB1.out.trans (b15.mono HB1.out.size)).setCell (p := ⟨w.heap.size, 0, none⟩) (Nat.le_refl _) (.int .i64 0)).setCell (p := ⟨w.heap.size, 1, none⟩) (Nat.le_refl _) (.string { data := #[] })).setCell (p := ⟨w.heap.size, 2, none⟩) (Nat.le_refl _) (.int .i64 0)).setCell (p := ⟨w.heap.size, 3, none⟩) (Nat.le_refl _) (.int .i64 0)).setCell (p := ⟨w.heap.size, 4, none⟩) (Nat.le_refl _) (.slice none 0 0))
    have H95 := Lib.hid (show w5.grownBy (((((w5.setCell ⟨w.heap.size, 0, none⟩ (.int .i64 0)).setCell ⟨w.heap.size, 1, none⟩ (.string { data := #[] })).setCell ⟨w.heap.size, 2, none⟩ (.int .i64 0)).setCell ⟨w.heap.size, 3, none⟩ (.int .i64 0)).setCell ⟨w.heap.size, 4, none⟩ (.slice none 0 0)) (some w.heap.size) from oth_trans (oth_set _ _ _ _) (oth_trans (oth_set _ _ _ _) (oth_trans (oth_set _ _ _ _) (oth_trans (oth_set _ _ _ _) (oth_set _ _ _ _)))))
    clear x3
    go_wp2_with fail
    clear z0 z1 z2 z3 z4 f0 f1 f2 f3 f4
    generalize (((((w5.setCell ⟨w.heap.size, 0, none⟩ (.int .i64 0)).setCell ⟨w.heap.size, 1, none⟩ (.string { data := #[] })).setCell ⟨w.heap.size, 2, none⟩ (.int .i64 0)).setCell ⟨w.heap.size, 3, none⟩ (.int .i64 0)).setCell ⟨w.heap.size, 4, none⟩ (.slice none 0 0)) = W9 at *
    refine bodyPost_ret (v := .tuple #[.agg #[.int .i64 0, .string { data := #[] }, .int .i64 0, .int .i64 0, .slice none 0 0], .int .i64 4]) ?_ rfl ⟨.inl ⟨HX.out, rfl⟩, HB9.out⟩
    have x0' := X9.out.cell 0
    have x1' := X9.out.cell 1
    have x2' := X9.out.cell 2
    have x3' := X9.out.cell 3
    have x4' := X9.out.cell 4
    simp at x0' x1' x2' x3' x4'
    simp [results, Tryz.results27, go_sem, x0', x1', x2', x3', x4']
  · obtain ⟨a, c, rfl, hw⟩ := hv
    have hmb := manP_all HBY.out (readP_some h1)
    have HSU := Lib.hid (fun W (b : Below w3.heap.size w3 W) => suremn_law _ _ _ _ _ _ _ (mnB x) W (fun W' b' => maymn_read hmb hw W' (step_below b b')))
    obtain ⟨ok, hok⟩ : ∃ ok, mnB x = ok := ⟨_, rfl⟩
    have HX := Lib.hid (And.intro h1 hok)
    have HW3 := Lib.hid (hw.base hs2)
    have HB3 := Lib.hid (step_below HB2.out b3)
    obtain ⟨xl, hxl⟩ : ∃ xl, x.logs.length = xl := ⟨_, rfl⟩
    have HXL := Lib.hid hxl
    obtain ⟨st, hst⟩ : ∃ st, strOfNums x.nm = st := ⟨_, rfl⟩
    have HST := Lib.hid hst
    rw [hok, hxl, hst] at HSU
    rw [hxl] at HW3 ⊢
    rw [hst]
    clear h1 b3 hok hw hmb hxl hst
    go_upto_region 2 with (fail)
    obtain ⟨W4, hW4⟩ : ∃ W4, w3.alloc (.cells #[.int .i64 (x.g : Int), .string st, .int .i64 (x.e : Int), .int .i64 (x.f : Int), .slice a xl c] 39) = W4 := ⟨_, rfl⟩
    have hb4 : Below w3.heap.size w3 W4 := by rw [← hW4]; exact bl1 _ _
    have x4 : BoxC W4 w3.heap.size #[.int .i64 (x.g : Int), .string st, .int .i64 (x.e : Int), .int .i64 (x.f : Int), .slice a xl c] 39 := by rw [← hW4]; exact BoxC.new _ _ _
    have q0 := x4.cell 0
    have q1 := x4.cell 1
    have q2 := x4.cell 2
    have q3 := x4.cell 3
    have q4 := x4.cell 4
    simp only [List.getElem?_toArray, List.getElem?_cons_zero, List.getElem?_cons_succ] at q0 q1 q2 q3 q4
    try rw [hW4]
    clear hW4 x4
    have HB4 := Lib.hid (step_below HB3.out hb4)
    have HW4 := Lib.hid (HW3.out.below hb4)
    have HS4 := Lib.hid (HSU.out _ hb4)
    clear hb4
    go_wp2_with fail
    refine HS4.out.mono ?_
    rintro r w5 ⟨rfl, b5⟩
    have b15 := step_below HB4.out b5
    have HW5 := Lib.hid (HW4.out.below b5)
    clear q0 q1 q2 q3 q4 b5
    cases ok with
    | false =>
      simp only [Bool.false_eq_true, if_false]
      have x3 := x0.below b15
      have z0 := x3.cell 0
      have f0 := x3.frozen 0
      have z1 := x3.cell 1
      have f1 := x3.frozen 1
      have z2 := x3.cell 2
      have f2 := x3.frozen 2
      have z3 := x3.cell 3
      have f3 := x3.frozen 3
      have z4 := x3.cell 4
      have f4 := x3.frozen 4
      simp only [List.getElem?_toArray, List.getElem?_cons_zero, List.getElem?_cons_succ] at z0 z1 z2 z3 z4
      have X9 := Lib.hid (((((x3.put 0 (.int .i64 0)).put 1 (.string { data := #[] })).put 2 (.int .i64 0)).put 3 (.int .i64 0)).put 4 (.slice none 0 0))
      have HB9 := Lib.hid ((((((HB1.out.trans (b15.mono HB1.out.size)).setCell (p := ⟨w.heap.size, 0, none⟩) (Nat.le_refl _) (.int .i64 0)).setCell (p := ⟨w.heap.size, 1, none⟩) (Nat.le_refl _) (.string { data := #[] })).setCell (p := ⟨w.heap.size, 2, none⟩) (Nat.le_refl _) (.int .i64 0)).setCell (p := ⟨w.heap.size, 3, none⟩) (Nat.le_refl _) (.int .i64 0)).setCell (p := ⟨w.heap.size, 4, none⟩) (Nat.le_refl _) (.slice none 0 0))
      have H95 := Lib.hid (show w5.grownBy (((((w5.setCell ⟨w.heap.size, 0, none⟩ (.int .i64 0)).setCell ⟨w.heap.size, 1, none⟩ (.string { data := #[] })).setCell ⟨w.heap.size, 2, none⟩ (.int .i64 0)).setCell ⟨w.heap.size, 3, none⟩ (.int .i64 0)).setCell ⟨w.heap.size, 4, none⟩ (.slice none 0 0)) (some w.heap.size) from oth_trans (oth_set _ _ _ _) (oth_trans (oth_set _ _ _ _) (oth_trans (oth_set _ _ _ _) (oth_trans (oth_set _ _ _ _) (oth_set _ _ _ _)))))
      clear x3
      go_wp2_with fail
      clear z0 z1 z2 z3 z4 f0 f1 f2 f3 f4
      generalize (((((w5.setCell ⟨w.heap.size, 0, none⟩ (.int .i64 0)).setCell ⟨w.heap.size, 1, none⟩ (.string { data := #[] })).setCell ⟨w.heap.size, 2, none⟩ (.int .i64 0)).setCell ⟨w.heap.size, 3, none⟩ (.int .i64 0)).setCell ⟨w.heap.size, 4, none⟩ (.slice none 0 0)) = W9 at *
      refine bodyPost_ret (v := .tuple #[.agg #[.int .i64 0, .string { data := #[] }, .int .i64 0, .int .i64 0, .slice none 0 0], .int .i64 4]) ?_ rfl ⟨.inl ⟨rmanP_2 HX.out.1 HX.out.2, rfl⟩, HB9.out⟩
      have x0' := X9.out.cell 0
      have x1' := X9.out.cell 1
      have x2' := X9.out.cell 2
      have x3' := X9.out.cell 3
      have x4' := X9.out.cell 4
      simp at x0' x1' x2' x3' x4'
      simp [results, Tryz.results27, go_sem, x0', x1', x2', x3', x4']
    | true =>
      simp only [if_true]
      have x3 := x0.below b15
      have z0 := x3.cell 0
      have f0 := x3.frozen 0
      have z1 := x3.cell 1
      have f1 := x3.frozen 1
      have z2 := x3.cell 2
      have f2 := x3.frozen 2
      have z3 := x3.cell 3
      have f3 := x3.frozen 3
      have z4 := x3.cell 4
      have f4 := x3.frozen 4
      simp only [List.getElem?_toArray, List.getElem?_cons_zero, List.getElem?_cons_succ] at z0 z1 z2 z3 z4
      have X9 := Lib.hid (((((x3.put 0 (.int .i64 (x.g : Int))).put 1 (.string st)).put 2 (.int .i64 (x.e : Int))).put 3 (.int .i64 (x.f : Int))).put 4 (.slice a xl c))
      have HB9 := Lib.hid ((((((HB1.out.trans (b15.mono HB1.out.size)).setCell (p := ⟨w.heap.size, 0, none⟩) (Nat.le_refl _) (.int .i64 (x.g : Int))).setCell (p := ⟨w.heap.size, 1, none⟩) (Nat.le_refl _) (.string st)).setCell (p := ⟨w.heap.size, 2, none⟩) (Nat.le_refl _) (.int .i64 (x.e : Int))).setCell (p := ⟨w.heap.size, 3, none⟩) (Nat.le_refl _) (.int .i64 (x.f : Int))).setCell (p := ⟨w.heap.size, 4, none⟩) (Nat.le_refl _) (.slice a xl c))
      have H95 := Lib.hid (show w5.grownBy (((((w5.setCell ⟨w.heap.size, 0, none⟩ (.int .i64 (x.g : Int))).setCell ⟨w.heap.size, 1, none⟩ (.string st)).setCell ⟨w.heap.size, 2, none⟩ (.int .i64 (x.e : Int))).setCell ⟨w.heap.size, 3, none⟩ (.int .i64 (x.f : Int))).setCell ⟨w.heap.size, 4, none⟩ (.slice a xl c)) (some w.heap.size) from oth_trans (oth_set _ _ _ _) (oth_trans (oth_set _ _ _ _) (oth_trans (oth_set _ _ _ _) (oth_trans (oth_set _ _ _ _) (oth_set _ _ _ _)))))
      clear x3
      go_wp2_with fail
      clear z0 z1 z2 z3 z4 f0 f1 f2 f3 f4
      generalize (((((w5.setCell ⟨w.heap.size, 0, none⟩ (.int .i64 (x.g : Int))).setCell ⟨w.heap.size, 1, none⟩ (.string st)).setCell ⟨w.heap.size, 2, none⟩ (.int .i64 (x.e : Int))).setCell ⟨w.heap.size, 3, none⟩ (.int .i64 (x.f : Int))).setCell ⟨w.heap.size, 4, none⟩ (.slice a xl c)) = W9 at *
      refine bodyPost_ret (v := .tuple #[.agg #[.int .i64 (x.g : Int), .string st, .int .i64 (x.e : Int), .int .i64 (x.f : Int), .slice a xl c], .int .i64 0]) ?_ rfl ⟨.inr ⟨x, _, rmanP_3 HX.out.1 HX.out.2, rfl, a, c, by rw [HXL.out, HST.out], by rw [HXL.out]; exact PartsO.base (by omega) (PartsO.oth HW5.out (by omega) H95.out)⟩, HB9.out⟩
      have x0' := X9.out.cell 0
      have x1' := X9.out.cell 1
      have x2' := X9.out.cell 2
      have x3' := X9.out.cell 3
      have x4' := X9.out.cell 4
      simp at x0' x1' x2' x3' x4'
      simp [results, Tryz.results27, go_sem, x0', x1', x2', x3', x4']
end Go.Proofs.YtglkndoghnblcaaGreatDoor
namespace Go.Proofs.YtglkndoghnblcaaGreatDoor
open Go.ChangeShapes Go.WideShapes Go.ChangeAt Go.RowKit
set_option linter.unusedVariables false
set_option linter.unusedSimpArgs false
set_option maxRecDepth 100000 in
set_option maxHeartbeats 4000000 in
/-- heads$1 (136). -/
theorem headone_law {W : World} {B : Nat} {R : List Int} (h : RdS W B R) :
    Calls Tryz.prog 124 #[.pointer (some ⟨B, 0, none⟩)] W (GetR W B (upP 4096 R) (fun x _ v => v = .int .i64 (x : Int))) := by
  have HU := Lib.hid (upto_law h 4096 (by decide))
  clear h
  go_enter Tryz.func124, Tryz.ntmps124
  go_wp2_with fail
  refine HU.out.mono ?_
  rintro r w2 ⟨⟨e1, rfl⟩ | ⟨x, R2, v, e1, rfl, rfl, r2⟩, g2⟩
  · have HX := Lib.hid e1
    have G := Lib.hid g2
    clear e1 g2
    go_wp2_with fail
    first | exact ⟨rfl, .inl ⟨HX.out, rfl⟩, G.out⟩ | exact ⟨.inl ⟨HX.out, rfl⟩, G.out⟩
  · have HX := Lib.hid (And.intro e1 (And.intro r2 g2))
    clear e1 r2 g2
    go_wp2_with fail
    go_ret
    exact ⟨.inr ⟨_, _, _, HX.out.1, rfl, rfl, HX.out.2.1⟩, HX.out.2.2⟩
set_option maxRecDepth 100000 in
set_option maxHeartbeats 4000000 in
/-- list's function at numbers (168). -/
theorem nclos_law {W : World} {B Bx : Nat} {R : List Int} (h : RdS W B R) (hx : W.cell? ⟨Bx, 0, none⟩ = some (.func (.func 124) #[] #[])) :
    Calls Tryz.prog 152 #[.pointer (some ⟨B, 0, none⟩), .pointer (some ⟨Bx, 0, none⟩)] W (ClR W B (upP 4096 R) (fun x _ v => v = .int .i64 (x : Int))) := by
  have HU := Lib.hid (headone_law h)
  clear h
  go_enter Tryz.func152, Tryz.ntmps152
  go_wp2_with fail
  refine HU.out.mono ?_
  rintro r w2 ⟨⟨e1, rfl⟩ | ⟨x, R2, v, e1, rfl, rfl, r2⟩, g2⟩
  · have HX := Lib.hid e1
    have G := Lib.hid g2
    clear e1 g2
    go_wp2_with fail
    first | exact ⟨rfl, .inl ⟨HX.out, rfl⟩, G.out⟩ | exact ⟨.inl ⟨HX.out, rfl⟩, G.out⟩
  · have HX := Lib.hid (And.intro e1 (And.intro r2 g2))
    clear e1 r2 g2
    go_wp2_with fail
    go_ret2
    exact ⟨.inr ⟨_, _, _, HX.out.1, rfl, rfl, HX.out.2.1⟩, HX.out.2.2⟩
end Go.Proofs.YtglkndoghnblcaaGreatDoor
namespace Go.Proofs.YtglkndoghnblcaaGreatDoor
open Go.ChangeShapes Go.WideShapes Go.ChangeAt Go.RowKit
set_option linter.unusedVariables false
set_option linter.unusedSimpArgs false
def ncells (xs : List Nat) : List Value := xs.map fun (x : Nat) => Value.int .i64 (x : Int)
/-- Numbers that were read, owned. -/
def NumsO (w : World) (base : Nat) (xs : List Nat) (v : Value) : Prop := w.ownsRow base 2 1 v xs.length (ncells xs)
theorem NumsO.nil (w : World) (base : Nat) : NumsO w base [] (.slice none 0 0) := World.ownsRow_nil _ _ _ _
theorem NumsO.oth {w w' : World} {base B : Nat} {xs : List Nat} {v : Value} (h : NumsO w base xs v) (hB : B < base) (g : w.grownBy w' (some B)) : NumsO w' base xs v := own_oth h hB g
theorem NumsO.base {w : World} {b b' : Nat} {xs : List Nat} {v : Value} (hb : b ≤ b') (h : NumsO w b' xs v) : NumsO w b xs v := own_base hb h
theorem NumsO.below {w w' : World} {base : Nat} {xs : List Nat} {v : Value} (h : NumsO w base xs v) (b : Below w.heap.size w w') : NumsO w' base xs v := own_below h b
theorem info2 : (Tryz.prog.info? 2).map (fun i => (i.zero, i.size, i.bytes)) = some (some (.int .i64 0), 1, 8) := by kernel_rfl
set_option maxRecDepth 100000 in
theorem hnf234 (f : Fn) (c1 c2 : Array Value) (w : World) : (binOp .eql 214 (.func f c1 c2) .nilFunc).run Tryz.prog w = .ok (.bool false) w := by
  first | rfl | simp [binOp, run_underlying Tryz.underlying214] | simp [binOp, Op.equal, run_underlying Tryz.underlying214, go_sem]
set_option maxRecDepth 100000 in
set_option maxHeartbeats 4000000 in
/-- Take at numbers (167). -/
theorem takenums_law {W : World} {B Bx : Nat} {R0 : List Int} (hR : RdS W B R0) (hx : W.cell? ⟨Bx, 0, none⟩ = some (.func (.func 124) #[] #[])) (hne : Bx ≠ B) (most : Nat) (hm : most ≤ 1000000) :
    Calls Tryz.prog 151 #[.pointer (some ⟨B, 0, none⟩), .int .i64 (most : Int), .func (.func 152) #[] #[.pointer (some ⟨Bx, 0, none⟩)]] W (TkP W B (listP most (upP 4096) R0) NumsO) := by
  obtain ⟨i0, hi, hz0, hz1, hz2⟩ := info_parts info2
  obtain ⟨ad, cap, n, L, p, h, hd, hn, hBY⟩ := hR
  have e0 := h.c0
  have e1 := h.c1
  have e2 := h.c2
  have H := Lib.hid h
  have hbl := h.lt
  have hxl := cell_lt hx
  simp only at hxl
  have hnf := hnf234
  have HN := Lib.hid (And.intro hn (And.intro hBY hd))
  clear h hd hn hBY
  have HXX := Lib.hid hx
  clear hx
  go_enter Tryz.func151, Tryz.ntmps151
  go_wp2_with fail
  refine (none_law H.out).mono ?_; rintro e w' ⟨rfl, rfl⟩
  go_wp2_with fail
  have B0 : Below W.heap.size W (W.alloc (.cells #[.slice ad n cap, .int .i64 (p : Int), .bool true] 196)) := (Below.refl _ _).alloc (Nat.le_refl _) _
  have h1 := H.out.below B0
  have kb : BoxC (W.alloc (.cells #[.slice ad n cap, .int .i64 (p : Int), .bool true] 196)) W.heap.size #[.slice ad n cap, .int .i64 (p : Int), .bool true] 196 := BoxC.new _ _ _
  have hsz : (W.alloc (.cells #[.slice ad n cap, .int .i64 (p : Int), .bool true] 196)).heap.size = W.heap.size + 1 := by simp
  clear e0 e1 e2
  generalize W.alloc (.cells #[.slice ad n cap, .int .i64 (p : Int), .bool true] 196) = W1 at B0 h1 kb hsz ⊢
  have HB0 := Lib.hid B0
  have KB := Lib.hid kb
  have FX1 := Lib.hid ((B0.cell (p := ⟨Bx, 0, none⟩) hxl).trans HXX.out)
  refine (count_law h1 HN.out.1 HN.out.2.1 most hm).mono ?_
  clear h1 B0 kb HXX
  rintro r w2 ⟨⟨hno, ⟨e, x, he, rfl⟩, q, h2⟩ | ⟨c0, q, hup, hvm, hqn, rfl, h2⟩, g2⟩
  · have HNO := Lib.hid (show listP most (upP 4096) R0 = none from listP_none (by rw [← HN.out.2.2]; exact hno))
    have kb2 := KB.out.gr g2 (by omega)
    have k0 := kb2.cell 0
    have k1 := kb2.cell 1
    have k2 := kb2.cell 2
    simp only [List.getElem?_toArray, List.getElem?_cons_zero, List.getElem?_cons_succ] at k0 k1 k2
    obtain ⟨z1, z2, z3⟩ := he.ne
    have HER := Lib.hid he
    have e0 := h2.c0
    have e1 := h2.c1
    have e2 := h2.c2
    have f0 := h2.f0
    have f1 := h2.f1
    have f2 := h2.f2
    have HG := Lib.hid (oth_trans (oth_below B HB0.out) g2)
    clear h2 g2 kb2 hno he
    by_cases hx0 : (0 : Int) < x
    · go_wp2_with fail
      go_loopw [10, 11, 12] (fun e' v i wr => e' = .int .i64 e ∧ v = .slice none 0 0 ∧ i = .int .u64 0 ∧ w2 = wr) (fun _ _ i _ => 0)
      case atStart => exact ⟨rfl, rfl, rfl, rfl⟩
      case round =>
        obtain ⟨rfl, rfl, rfl, rfl⟩ := hrel
        go_wp2_with fail
        go_ret2
        exact ⟨.inl ⟨HNO.out, .inl ⟨e, HER.out, rfl⟩⟩, oth_trans HG.out (oth_trans (oth_set _ _ _ _) (oth_trans (oth_set _ _ _ _) (oth_set _ _ _ _)))⟩
    · go_wp2_with fail
      go_loopw [10, 11, 12] (fun e' v i wr => e' = .int .i64 e ∧ v = .slice none 0 0 ∧ i = .int .u64 0 ∧ w2 = wr) (fun _ _ i _ => 0)
      case atStart => exact ⟨rfl, rfl, rfl, rfl⟩
      case round =>
        obtain ⟨rfl, rfl, rfl, rfl⟩ := hrel
        go_wp2_with fail
        go_ret2
        exact ⟨.inl ⟨HNO.out, .inl ⟨e, HER.out, rfl⟩⟩, oth_trans HG.out (oth_trans (oth_set _ _ _ _) (oth_trans (oth_set _ _ _ _) (oth_set _ _ _ _)))⟩
  · have hcm : c0 ≤ 1000000 := by omega
    have HTG := Lib.hid (show listP most (upP 4096) R0 = addP [] (manyP (upP 4096) (c0 - 0) (L.drop q)) from listP_eq (by rw [← HN.out.2.2]; exact hup))
    have HS2 := Lib.hid (show RdS w2 B (L.drop q) from ⟨ad, cap, n, L, q, h2, rfl, HN.out.1, HN.out.2.1⟩)
    have FX2 := Lib.hid (g2.cell FX1.out (by intro e; injection e with e'; exact hne e'))
    have HG := Lib.hid (oth_trans (oth_below B HB0.out) g2)
    have HSZ := Lib.hid (show W.heap.size + 1 ≤ w2.heap.size by rw [← hsz]; exact g2.size)
    clear h2 g2 hup hsz hvm hqn
    go_wp2_with fail
    go_loopw [10, 11, 12] (fun e v i wr => e = .int .i64 0 ∧ ∃ (k : Nat) (fs : List Nat) (Rk : List Int), k ≤ c0 ∧ i = .int .u64 (k : Int) ∧ Hid (fs.length = k ∧ listP most (upP 4096) R0 = addP fs (manyP (upP 4096) (c0 - k) Rk)) ∧ Hid (NumsO wr (W.heap.size + 1) fs v) ∧ Hid (RdS wr B Rk) ∧ Hid (wr.cell? ⟨Bx, 0, none⟩ = some (.func (.func 124) #[] #[])) ∧ Hid (W.grownBy wr (some B)) ∧ Hid (W.heap.size + 1 ≤ wr.heap.size)) (fun _ _ i _ => c0 - (intOf i).toNat)
    case atStart => exact ⟨rfl, 0, [], _, by omega, rfl, Lib.hid ⟨rfl, HTG.out⟩, Lib.hid (NumsO.nil _ _), HS2, FX2, HG, HSZ⟩
    case round =>
      clear HTG HS2 FX2 HG HSZ FX1 KB HB0
      obtain ⟨rfl, k, fs, Rk, hk, rfl, HL, HO, HS, FX, HG, HSZ⟩ := hrel
      by_cases hkc : k < c0
      · have hkci : (k : Int) < (c0 : Int) := by omega
        have hsB : B < wr.heap.size := HS.out.lt
        have RO := Lib.hid (nclos_law HS.out FX.out)
        have hsz3 := HSZ.out
        go_wp2_with fail
        refine RO.out.mono ?_
        rintro e w4 ⟨⟨h1, rfl⟩ | ⟨t, R', v1, h1, rfl, rfl, h3⟩, g1⟩
        · have HNO := Lib.hid (show listP most (upP 4096) R0 = none by rw [HL.out.2]; exact manyP_stop hkc fs h1)
          have G := Lib.hid (oth_trans HG.out g1)
          clear h1 g1
          go_wp2_with fail
          first | exact ⟨rfl, .inl ⟨HNO.out, .inr rfl⟩, G.out⟩ | exact ⟨.inl ⟨HNO.out, .inr rfl⟩, G.out⟩
        · have HNXT := Lib.hid (show listP most (upP 4096) R0 = addP (fs ++ [t]) (manyP (upP 4096) (c0 - (k + 1)) R') by rw [HL.out.2]; exact manyP_next hkc fs h1)
          have hs5' : W.heap.size + 1 ≤ w4.heap.size := Nat.le_trans hsz3 g1.size
          have hp2 := HO.out.oth (by omega : B < W.heap.size + 1) g1
          unfold NumsO at hp2
          rw [HL.out.1] at hp2
          have HP2 := Lib.hid hp2
          have HS5 := Lib.hid h3
          have FX5 := Lib.hid (g1.cell FX.out (by intro e; injection e with e'; exact hne e'))
          have HG5 := Lib.hid (oth_trans HG.out g1)
          have HZ5 := Lib.hid hs5'
          have HAL := Lib.hid (show Below (W.heap.size + 1) w4 (w4.alloc (.cells #[.int .i64 (t : Int)] 2)) from (Below.refl _ w4).alloc hs5' _)
          clear h1 h3 g1 hp2 HO HS FX HG RO
          go_wp2_with (at_builtin; refine wpList_append_own _ rfl (.tmp 44) (.tmp 46) 124 rfl (W.heap.size + 1) 2 i0 (.int .i64 0) 1 8 Tryz.underlying124 hi hz0 hz1 hz2 rfl (by decide) _ k (ncells fs) rfl (HP2.out.alloc _) ⟨w4.heap.size, 0, none⟩ 1 1 [.int .i64 (t : Int)] rfl rfl (by intro j u hj; match j, hj with | 0, hj => (simp at hj; subst hj; simp [Addr.add, go_sem]) | j + 1, hj => simp at hj) (by intro u hu; simp at hu; subst hu; rfl) (by unfold maxLen; omega) (by omega) (by simp; omega) ?_)
          intro v6 w6 hown6 hgrow6 _
          have b6 : Below (W.heap.size + 1) w4 w6 := HAL.out.grown hgrow6 (by simp; omega) (fun j hj => (HP2.out.lt j hj).1)
          have HO6 := Lib.hid (show NumsO w6 (W.heap.size + 1) (fs ++ [t]) v6 by
            unfold NumsO
            rw [List.length_append, HL.out.1]
            have e : ncells (fs ++ [t]) = ncells fs ++ [.int .i64 (t : Int)] := by simp [ncells]
            rw [e]
            exact hown6)
          have HR6 := Lib.hid (HS5.out.below1 (b6.mono (by omega)))
          have FX6 := Lib.hid ((b6.cell (p := ⟨Bx, 0, none⟩) (by simp; omega)).trans FX5.out)
          have HG6 := Lib.hid (grown_below HG5.out (b6.mono (by omega)))
          have HSZ6 := Lib.hid (show W.heap.size + 1 ≤ w6.heap.size from Nat.le_trans HZ5.out b6.size)
          have HL6 := Lib.hid (show (fs ++ [t]).length = k + 1 by rw [List.length_append, HL.out.1]; rfl)
          clear b6 hown6 hgrow6
          go_wp2_with fail
          go_roundw
          case rel => exact ⟨rfl, k + 1, fs ++ [t], R', by omega, by go_num, Lib.hid ⟨HL6.out, HNXT.out⟩, HO6, HR6, FX6, HG6, HSZ6⟩
          case measure => simp [intOf]; omega
      · have hkci : ¬ (k : Int) < (c0 : Int) := by omega
        have ekc : c0 - k = 0 := by omega
        have HYES := Lib.hid (show listP most (upP 4096) R0 = some (fs, Rk) by rw [HL.out.2, ekc]; simp [manyP, addP])
        clear ekc
        go_wp2_with fail
        go_ret2
        exact ⟨.inr ⟨fs, Rk, _, HYES.out, rfl, HO.out.base (by omega), HS.out⟩, HG.out⟩
set_option maxRecDepth 100000 in
set_option maxHeartbeats 4000000 in
/-- list at numbers (135). -/
theorem listnums_law {W : World} {B : Nat} {R : List Int} (h : RdS W B R) (most : Nat) (hm : most ≤ 1000000) :
    Calls Tryz.prog 123 #[.pointer (some ⟨B, 0, none⟩), .int .i64 (most : Int), .func (.func 124) #[] #[]] W (GetR W B (listP most (upP 4096) R) (fun x w' v => NumsO w' W.heap.size x v)) := by
  have hmf : ∀ (fn : Fn) (first cap : Array Value) (w : World), (Instr.makeFunc fn first cap).run Tryz.prog w = .ok (.func fn first cap) w := fun _ _ _ _ => rfl
  have hlt := h.lt
  have HR := Lib.hid h
  clear h
  go_enter Tryz.func123, Tryz.ntmps123
  go_upto_region 1 with (fail)
  obtain ⟨W1, hW1⟩ : ∃ W1, W.alloc (.cells #[.func (.func 124) #[] #[]] 182) = W1 := ⟨_, rfl⟩
  have hb1 : Below W.heap.size W W1 := by rw [← hW1]; exact bl1 _ _
  have hx1 : W1.cell? ⟨W.heap.size, 0, none⟩ = some (.func (.func 124) #[] #[]) := by rw [← hW1, cell_new]; rfl
  have hsz : W1.heap.size = W.heap.size + 1 := by rw [← hW1]; simp
  try rw [hW1]
  clear hW1
  have HT := Lib.hid (takenums_law (HR.out.below hb1) hx1 (by omega) most hm)
  have HB1 := Lib.hid hb1
  clear hb1 hx1
  go_wp2_with fail
  refine HT.out.mono ?_
  rintro r w2 ⟨⟨e1, ⟨e, he, rfl⟩ | rfl⟩ | ⟨xs, R2, v, e1, rfl, hv, r2⟩, g2⟩
  · have HX := Lib.hid e1
    have G := Lib.hid (oth_trans (oth_below B HB1.out) g2)
    have HE := Lib.hid he.ne.2.2
    clear e1 g2 he
    go_wp2_with fail
    refine (must_nums_no _ e HE.out _).mono ?_
    rintro r w' ⟨rfl, rfl⟩
    go_wp2_with fail
    first | exact ⟨rfl, .inl ⟨HX.out, rfl⟩, G.out⟩ | exact ⟨.inl ⟨HX.out, rfl⟩, G.out⟩
  · have HX := Lib.hid e1
    have G := Lib.hid (oth_trans (oth_below B HB1.out) g2)
    clear e1 g2
    go_wp2_with fail
    first | exact ⟨rfl, .inl ⟨HX.out, rfl⟩, G.out⟩ | exact ⟨.inl ⟨HX.out, rfl⟩, G.out⟩
  · have HX := Lib.hid e1
    have G := Lib.hid (oth_trans (oth_below B HB1.out) g2)
    have HV := Lib.hid (hv.base HB1.out.size)
    have HS := Lib.hid r2
    clear e1 g2 hv r2
    go_wp2_with fail
    refine (must_nums_ok _ _).mono ?_
    rintro r w' ⟨rfl, rfl⟩
    go_wp2_with fail
    go_ret
    exact ⟨.inr ⟨_, _, _, HX.out, rfl, HV.out, HS.out⟩, G.out⟩
end Go.Proofs.YtglkndoghnblcaaGreatDoor
namespace Go.Proofs.YtglkndoghnblcaaGreatDoor
open Go.ChangeShapes Go.WideShapes Go.ChangeAt Go.RowKit
set_option linter.unusedVariables false
set_option linter.unusedSimpArgs false
abbrev Hd2 := Nat × List Nat
def headP (L : List Int) : Option (Hd2 × List Int) := bindP (upP 16777215 L) fun e r => bindP (listP 4 (upP 4096) r) fun xs r' => some ((e, xs), r')
def HdO (w : World) (base : Nat) (x : Hd2) (v : Value) : Prop := ∃ a c, v = .agg #[.int .i64 (x.1 : Int), .slice a x.2.length c] ∧ NumsO w base x.2 (.slice a x.2.length c)
set_option maxRecDepth 100000 in
set_option maxHeartbeats 4000000 in
/-- heads (83). -/
theorem heads_law {W : World} {B : Nat} {R : List Int} (h : RdS W B R) :
    Calls Tryz.prog 79 #[.pointer (some ⟨B, 0, none⟩)] W (GetR W B (headP R) (fun x w' v => HdO w' W.heap.size x v)) := by
  have hlt := h.lt
  have HR := Lib.hid h
  clear h
  go_enter Tryz.func79, Tryz.ntmps79
  go_upto_region 1 with (fail)
  obtain ⟨W1, hW1⟩ : ∃ W1, W.alloc (.cells #[.int .i64 0, .slice none 0 0] 131) = W1 := ⟨_, rfl⟩
  have hb1 : Below W.heap.size W W1 := by rw [← hW1]; exact bl1 _ _
  have bx : BoxC W1 W.heap.size #[.int .i64 0, .slice none 0 0] 131 := by rw [← hW1]; exact BoxC.new W _ 131
  have hsz : W1.heap.size = W.heap.size + 1 := by rw [← hW1]; simp
  try rw [hW1]
  clear hW1
  obtain ⟨N0, hN0⟩ : ∃ N, W.heap.size = N := ⟨_, rfl⟩
  have C1 := Lib.hid (upto_law (HR.out.below hb1) 16777215 (by decide))
  have HB1 := Lib.hid hb1
  have HN0 := Lib.hid hN0
  rw [hN0] at hsz hlt bx ⊢
  have BX := Lib.hid bx
  clear hb1 bx hN0
  go_wp2_with fail
  refine C1.out.mono ?_
  rintro r w2 ⟨⟨e1, rfl⟩ | ⟨e, R2, v, e1, rfl, rfl, r2⟩, g2⟩
  · have HX := Lib.hid (show headP R = none from bindP_none e1)
    have G := Lib.hid (oth_trans (oth_below B HB1.out) g2)
    clear e1 g2
    go_wp2_with fail
    first | exact ⟨rfl, .inl ⟨HX.out, rfl⟩, G.out⟩ | exact ⟨.inl ⟨HX.out, rfl⟩, G.out⟩
  have E1 := Lib.hid (show headP R = _ from bindP_some e1)
  have G2 := Lib.hid g2
  have C2 := Lib.hid (listnums_law r2 4 (by decide))
  have hs2 : N0 + 1 ≤ w2.heap.size := by rw [← hsz]; exact g2.size
  clear e1 g2 r2 C1
  go_wp2_with fail
  refine C2.out.mono ?_
  rintro r w5 ⟨⟨e2, rfl⟩ | ⟨xs, R3, v, e2, rfl, hv, r3⟩, g3⟩
  · have HX := Lib.hid (E1.out.trans (bindP_none e2))
    have G := Lib.hid (oth_trans (oth_below B HB1.out) (oth_trans G2.out g3))
    clear e2 g3
    go_wp2_with fail
    first | exact ⟨rfl, .inl ⟨HX.out, rfl⟩, G.out⟩ | exact ⟨.inl ⟨HX.out, rfl⟩, G.out⟩
  have HX := Lib.hid (E1.out.trans (bindP_some e2))
  have G6 := Lib.hid (oth_trans (oth_below B HB1.out) (oth_trans G2.out g3))
  obtain ⟨a, c, rfl⟩ : ∃ a c, v = .slice a xs.length c := own_form hv
  have HV := Lib.hid (hv.base hs2)
  have R6' := Lib.hid r3
  have X6 := Lib.hid (BX.out.gr (oth_trans G2.out g3) (by omega))
  obtain ⟨xl, hxl⟩ : ∃ xl, xs.length = xl := ⟨_, rfl⟩
  have HXL := Lib.hid hxl
  rw [hxl] at HV ⊢
  clear e2 g3 hv r3 hxl BX C2 E1
  have x0 := X6.out.cell 0
  have x1 := X6.out.cell 1
  have f0 := X6.out.frozen 0
  have f1 := X6.out.frozen 1
  simp only [List.getElem?_toArray, List.getElem?_cons_zero, List.getElem?_cons_succ] at x0 x1
  have HX9 := Lib.hid ((X6.out.put 0 (.int .i64 (e : Int))).put 1 (.slice a xl c))
  have H9 := Lib.hid (show w5.grownBy ((w5.setCell ⟨N0, 0, none⟩ (.int .i64 (e : Int))).setCell ⟨N0, 1, none⟩ (.slice a xl c)) (some N0) from oth_trans (oth_set _ _ _ _) (oth_set _ _ _ _))
  have HB9 := Lib.hid (((Below.refl N0 w5).setCell (p := ⟨N0, 0, none⟩) (Nat.le_refl _) (.int .i64 (e : Int))).setCell (p := ⟨N0, 1, none⟩) (Nat.le_refl _) (.slice a xl c))
  go_wp2_with fail
  clear x0 x1 f0 f1
  generalize ((w5.setCell ⟨N0, 0, none⟩ (.int .i64 (e : Int))).setCell ⟨N0, 1, none⟩ (.slice a xl c)) = W9 at *
  refine bodyPost_ret (v := .agg #[.int .i64 (e : Int), .slice a xl c]) ?_ rfl ⟨.inr ⟨_, _, _, HX.out, rfl, ⟨a, c, by simp only [HXL.out], ?_⟩, R6'.out.below1 (HB9.out.mono (by omega))⟩, grown_below G6.out (by rw [HN0.out]; exact HB9.out)⟩
  · have x0 := HX9.out.cell 0
    have x1 := HX9.out.cell 1
    simp at x0 x1
    simp [results, Tryz.results79, go_sem, x0, x1]
  · rw [HN0.out]
    simp only
    rw [HXL.out]
    exact (HV.out.oth (by omega) H9.out).base (by omega)
end Go.Proofs.YtglkndoghnblcaaGreatDoor
