/- The chapter's rows, by a contract. -/
import Derived.Test.YtkgcbhpgkcfkhaaRed
import Derived.Lib.SlBytesConst
namespace Go.Proofs.Ytkgcbhpgkcfkhaa
open Go.ChangeShapes Go.WideShapes Go.ChangeAt Go.RowKit
set_option linter.unusedVariables false
set_option linter.unusedSimpArgs false

theorem kb1 (a b ad : Option Addr) (ca cb cap : Nat) (w : World) (h : RdR w ad [⟨a, ca, [97]⟩, ⟨b, cb, [98, 99]⟩]) :
    Calls Try.prog 15 #[.slice ad 2 cap] w fun r w' => ∃ a' c', r = .returned (.tuple #[.slice a' 6 c', .int .i64 0]) ∧ Ls .u8 w' a' c' [2, 1, 97, 2, 98, 99] ∧ Below w.heap.size w w' :=
  bytes_ok ad [⟨a, ca, [97]⟩, ⟨b, cb, [98, 99]⟩] 2 cap rfl rfl w h
theorem kr1 (a : Option Addr) (cap : Nat) (w : World) (h : Ls .u8 w a cap [2, 1, 97, 2, 98, 99]) :
    Calls Try.prog 58 #[.slice a 6 cap] w fun r w' => ∃ b off c' ad cp, r = .returned (.tuple #[.slice (some ⟨b, off, none⟩) 2 c', .int .i64 0]) ∧ w'.cell? ⟨b, off + 1, none⟩ = some (.slice ad 2 cp) ∧ Ls .u8 w' ad cp [98, 99] ∧ Below w.heap.size w w' := by
  refine (read_ok a [2, 1, 97, 2, 98, 99] 6 cap rfl (by omega) 2 [[97], [98, 99]] rfl (by omega) rfl (by decide) w h).mono ?_
  rintro r w' ⟨⟨a', c', R, rfl, hm, hR⟩, B⟩
  have hlen : R.length = 2 := by simpa using congrArg List.length hm
  match R, hlen, hm with
  | [p, q], _, hm =>
    simp only [List.map_cons, List.map_nil, List.cons.injEq, and_true] at hm
    obtain ⟨b, off, rfl, hc, hl⟩ := hR 1 q rfl
    rw [hm.2] at hl
    refine ⟨b, off, c', q.ad, q.cap, rfl, ?_, hl, B⟩
    rw [hc, P1.v, hm.2]; rfl
theorem kr2 (a : Option Addr) (cap : Nat) (w : World) (h : Ls .u8 w a cap [2, 1, 97]) :
    Calls Try.prog 58 #[.slice a 3 cap] w fun r w' => r = .returned (.tuple #[.slice none 0 0, .int .i64 4]) ∧ Below w.heap.size w w' :=
  read_bad a [2, 1, 97] 3 cap rfl (by omega) 2 [[97]] rfl (by omega) (by decide) (by decide) w h
theorem kb0 (w : World) : Calls Try.prog 15 #[.slice none 0 0] w fun r w' => r = .returned (.tuple #[.slice none 0 0, .int .i64 2]) ∧ Below w.heap.size w w' :=
  bytes_bad none [] 0 0 rfl (by omega) rfl w (RdR.nil _ _)
theorem kb25 (a ad : Option Addr) (ca cap : Nat) (w : World) (h : RdR w ad [⟨a, ca, List.replicate 25 0⟩]) : Calls Try.prog 15 #[.slice ad 1 cap] w fun r w' => r = .returned (.tuple #[.slice none 0 0, .int .i64 2]) ∧ Below w.heap.size w w' :=
  bytes_bad ad [⟨a, ca, List.replicate 25 0⟩] 1 cap rfl (by omega) (by rw [mayR, allB]; simp) w h
theorem kw1 (a ad : Option Addr) (ca cap : Nat) (w : World) (h : RdR w ad [⟨a, ca, [97]⟩]) :
    Calls Try.prog 16 #[.slice ad 1 cap] w fun r w' => ∃ b off c', r = .returned (.tuple #[.slice (some ⟨b, off, none⟩) 2 c', .int .i64 0]) ∧ w'.cell? ⟨b, off, none⟩ = some (.int .u64 3) ∧ w'.cell? ⟨b, off + 1, none⟩ = some (.int .u64 72445721642532864) ∧ Below w.heap.size w w' := by
  refine (words_ok ad [⟨a, ca, [97]⟩] 1 cap rfl rfl (by intro p hp; simp at hp; subst hp; intro x hx; simp at hx; omega) w h).mono ?_
  rintro r w' ⟨a', c', hr, hl, B⟩
  have e : wordsL (rbytesL [⟨a, ca, [97]⟩]) = [3, 72445721642532864] := by
    rw [show rbytesL [⟨a, ca, [97]⟩] = [1, 1, 97] from rfl]
    decide +kernel
  rw [e] at hr hl
  obtain ⟨b, off, rfl, c0⟩ := hl.get 0 (by decide)
  obtain ⟨b', off', e', c1⟩ := hl.get 1 (by decide)
  cases e'
  exact ⟨b, off, c', hr, c0, c1, B⟩
theorem ke1 (a b : Option Addr) (ca cb : Nat) (w : World) (hA : Ls .u8 w a ca [97, 0]) (hB : Ls .u8 w b cb [107]) :
    Calls Try.prog 30 #[.slice a 2 ca, .slice b 1 cb] w fun r w' => ∃ a' c', r = .returned (.tuple #[.slice a' 6 c', .int .i64 0]) ∧ Ls .u8 w' a' c' [97, 0, 255, 0, 1, 107] ∧ Below w.heap.size w w' :=
  entry_ok a b [97, 0] [107] 2 1 ca cb rfl rfl (by omega) rfl w hA hB
theorem ks1 (a : Option Addr) (cap : Nat) (w : World) (h : Ls .u8 w a cap [97, 0, 255, 0, 1, 107]) :
    Calls Try.prog 27 #[.slice a 6 cap] w fun r w' => ∃ a1 c1 a2 c2, r = .returned (.tuple #[.slice a1 2 c1, .slice a2 1 c2, .int .i64 0]) ∧ Ls .u8 w' a1 c1 [97, 0] ∧ Ls .u8 w' a2 c2 [107] ∧ Below w.heap.size w w' :=
  split_law a [97, 0, 255, 0, 1, 107] 6 cap rfl (by omega) [97, 0] [107] 0 (by decide +kernel) w h
theorem ks2 (a : Option Addr) (cap : Nat) (w : World) (h : Ls .u8 w a cap [97]) :
    Calls Try.prog 27 #[.slice a 1 cap] w fun r w' => ∃ a1 c1 a2 c2, r = .returned (.tuple #[.slice a1 0 c1, .slice a2 0 c2, .int .i64 4]) ∧ Ls .u8 w' a1 c1 [] ∧ Ls .u8 w' a2 c2 [] ∧ Below w.heap.size w w' :=
  split_law a [97] 1 cap rfl (by omega) [] [] 4 (by decide +kernel) w h
theorem ke2 (a : Option Addr) (ca : Nat) (w : World) (hA : Ls .u8 w a ca [97]) :
    Calls Try.prog 30 #[.slice a 1 ca, .slice none 0 0] w fun r w' => r = .returned (.tuple #[.slice none 0 0, .int .i64 2]) ∧ Below w.heap.size w w' :=
  entry_bad a none [97] 1 0 ca 0 rfl (.inr rfl) w hA
theorem kf1 (a : Option Addr) (ca : Nat) (w : World) (hA : Ls .u8 w a ca [97, 0]) :
    Calls Try.prog 29 #[.slice a 2 ca] w fun r w' => ∃ a' c', r = .returned (.tuple #[.slice a' 3 c', .int .i64 0]) ∧ Ls .u8 w' a' c' [97, 0, 255] ∧ Below w.heap.size w w' :=
  front_ok a [97, 0] 2 ca rfl (by omega) w hA
theorem kc_ls (a : Option Addr) (n cap : Nat) (L : List Int) (s : ByteArray) (hn : L.length = n) (hs : strOfNums L = s) (w : World) (h : Ls .u8 w a cap L) : (convert 24 9 (.slice a n cap)).run Try.prog w = .ok (.string s) w := by
  rw [← hs]; exact conv_ls w a n cap L hn h.rd

theorem made25 : (madeCells (Value.int .u8 0).cells (25 * 1)).toList = iv .u8 (List.replicate 25 0) := by kernel_rfl
theorem below_new (w : World) (o : Obj) : Below w.heap.size w (w.alloc o) := (Below.refl _ _).alloc (Nat.le_refl _) _
/-- A row of one field that was just laid. -/
theorem lit1 (w : World) (L : List Int) (n : Nat) (cs : Array Value) (fr : Nat × Nat) (hn : L.length = n) (hcs : cs = (iv .u8 L).toArray) : RdR ((w.alloc (.cells cs 5 fr)).alloc (.cells #[.slice (some ⟨w.heap.size, 0, none⟩) n n] 24)) (some ⟨w.heap.size + 1, 0, none⟩) [⟨some ⟨w.heap.size, 0, none⟩, n, L⟩] := by
  have := rdR_new (w.alloc (.cells cs 5 fr)) [⟨some ⟨w.heap.size, 0, none⟩, n, L⟩] #[.slice (some ⟨w.heap.size, 0, none⟩) n n] 24 (0, 0) (by simp only [List.map_cons, List.map_nil, P1.v, hn]) (by
    intro p hp
    simp only [List.mem_cons, List.not_mem_nil, or_false] at hp
    subst hp
    exact ls_new .u8 w L _ _ _ hcs n hn)
  rwa [World.size_alloc] at this
theorem lit2 (w : World) (L M : List Int) (n m : Nat) (cs ds : Array Value) (fr fq : Nat × Nat) (hn : L.length = n) (hm : M.length = m) (hcs : cs = (iv .u8 L).toArray) (hds : ds = (iv .u8 M).toArray) :
    RdR (((w.alloc (.cells cs 5 fr)).alloc (.cells ds 5 fq)).alloc (.cells #[.slice (some ⟨w.heap.size, 0, none⟩) n n, .slice (some ⟨w.heap.size + 1, 0, none⟩) m m] 24)) (some ⟨w.heap.size + 1 + 1, 0, none⟩) [⟨some ⟨w.heap.size, 0, none⟩, n, L⟩, ⟨some ⟨w.heap.size + 1, 0, none⟩, m, M⟩] := by
  have := rdR_new ((w.alloc (.cells cs 5 fr)).alloc (.cells ds 5 fq)) [⟨some ⟨w.heap.size, 0, none⟩, n, L⟩, ⟨some ⟨w.heap.size + 1, 0, none⟩, m, M⟩] #[.slice (some ⟨w.heap.size, 0, none⟩) n n, .slice (some ⟨w.heap.size + 1, 0, none⟩) m m] 24 (0, 0) (by simp only [List.map_cons, List.map_nil, P1.v, hn, hm]) (by
    intro p hp
    simp only [List.mem_cons, List.not_mem_nil, or_false] at hp
    rcases hp with rfl | rfl
    · exact (ls_new .u8 w L _ _ _ hcs n hn).below (below_new _ _)
    · have h := ls_new .u8 (w.alloc (.cells cs 5 fr)) M ds 5 fq hds m hm
      rwa [World.size_alloc] at h)
  rwa [World.size_alloc, World.size_alloc] at this
theorem two_ls (w : World) (L M : List Int) (n m : Nat) (cs ds : Array Value) (fr fq : Nat × Nat) (hn : L.length = n) (hm : M.length = m) (hcs : cs = (iv .u8 L).toArray) (hds : ds = (iv .u8 M).toArray) :
    Ls .u8 ((w.alloc (.cells cs 5 fr)).alloc (.cells ds 5 fq)) (some ⟨w.heap.size, 0, none⟩) n L ∧ Ls .u8 ((w.alloc (.cells cs 5 fr)).alloc (.cells ds 5 fq)) (some ⟨w.heap.size + 1, 0, none⟩) m M := by
  refine ⟨(ls_new .u8 w L _ _ _ hcs n hn).below (below_new _ _), ?_⟩
  have h := ls_new .u8 (w.alloc (.cells cs 5 fr)) M ds 5 fq hds m hm
  rwa [World.size_alloc] at h
theorem b2 (w : World) (o p : Obj) : Below w.heap.size w ((w.alloc o).alloc p) := step_below (below_new _ _) (below_new _ _)
theorem b3 (w : World) (o p q : Obj) : Below w.heap.size w (((w.alloc o).alloc p).alloc q) := step_below (b2 _ _ _) (below_new _ _)

set_option maxRecDepth 100000 in
set_option maxHeartbeats 8000000 in
theorem known_law (w : World) : Calls Try.prog 13 #[] w fun e w' => e = .returned (.bool true) ∧ Below w.heap.size w w' := by
  have kc := fun (w : World) (C : Array Value) (n c b : Nat) (hb : b = w.heap.size) => (by subst hb; exact Lib.run_convert_bytes_const w 24 5 C n c Try.underlying24 Try.underlying5 : (convert 24 24 (.slice (some ⟨b, 0, none⟩) n c)).run Try.prog (w.alloc (.cells C 5)) = .ok (.slice (some ⟨b, 0, none⟩) n c) (w.alloc (.cells C 5 (C.size, C.size + 1))))
  obtain ⟨i0, hi, hz0, hz1, hz2⟩ := info_parts eltB.inf
  go_enter Try.func13, Try.ntmps13
  go_wp2_with fail
  refine (kb1 _ _ _ _ _ _ _ (lit2 w [97] [98, 99] 1 2 _ _ _ _ rfl rfl rfl rfl)).mono ?_; rintro e w1 ⟨aA, cA, rfl, lA, B⟩
  replace B := step_below (b3 _ _ _ _) B
  replace lA := Lib.hid lA
  go_wp2_with fail
  refine (kr1 _ _ _ lA.out).mono ?_; rintro e w2 ⟨bR, oR, cR, adR, cpR, rfl, kR, lR, B2⟩
  replace B := step_below B B2
  replace lA := Lib.hid (lA.out.below B2)
  replace lR := Lib.hid lR
  have lK : ∀ W, Below w2.heap.size w2 W → W.cell? ⟨bR, oR + 1, none⟩ = some (.slice adR 2 cpR) := fun W b => (b.cell (p := ⟨bR, oR + 1, none⟩) (World.block_lt_of_cell? _ _ kR)).trans kR
  replace lK := Lib.hid lK
  have BR : Below w2.heap.size w2 w2 := Below.refl _ _
  clear B2 kR
  go_wp2_with fail
  refine (kr2 _ _ _ (ls_new .u8 w2 [2, 1, 97] _ _ _ rfl 3 rfl)).mono ?_; rintro e w3 ⟨rfl, B3⟩
  replace B3 := step_below (below_new _ _) B3
  replace B := step_below B B3
  replace BR := step_below BR B3
  replace lA := Lib.hid (lA.out.below B3)
  replace lR := Lib.hid (lR.out.below B3)
  clear B3
  go_wp2_with fail
  refine (kb0 _).mono ?_; rintro e w4 ⟨rfl, B3⟩
  replace B := step_below B B3
  replace BR := step_below BR B3
  replace lA := Lib.hid (lA.out.below B3)
  replace lR := Lib.hid (lR.out.below B3)
  clear B3
  go_wp2_with (at_make; refine wpList_make_full _ rfl _ _ 24 rfl 0 5 i0 (.int .u8 0) 1 Try.underlying24 hi hz0 hz1 .i64 .i64 _ _ 25 rfl rfl rfl rfl (by rw [hz2]; omega) (by unfold maxLen; omega) (Nat.zero_le _) ?_)
  intro w5 hown hgrow
  have B3 : Below w4.heap.size w4 w5 := (Below.refl _ _).grown hgrow (Nat.le_refl _) (fun j hj => by cases hj)
  have lM : Ls .u8 w5 (some ⟨w4.heap.size, 0, none⟩) 25 (List.replicate 25 0) := by
    obtain ⟨a', c', e, l', _⟩ := own_ls (K := .u8) (L := List.replicate 25 0) (n := 25) (by rw [← made25]; exact hown) rfl
    cases e
    exact l'
  replace B := step_below B B3
  replace BR := step_below BR B3
  replace lA := Lib.hid (lA.out.below B3)
  replace lR := Lib.hid (lR.out.below B3)
  clear B3
  replace lM := Lib.hid lM
  clear hown hgrow
  go_wp2_with fail
  have RM : RdR (w5.alloc (.cells #[.slice (some ⟨w4.heap.size, 0, none⟩) 25 25] 24)) (some ⟨w5.heap.size, 0, none⟩) [⟨some ⟨w4.heap.size, 0, none⟩, 25, List.replicate 25 0⟩] := rdR_new w5 _ _ 24 (0, 0) (by simp [P1.v]) (by intro p hp; simp only [List.mem_cons, List.not_mem_nil, or_false] at hp; subst hp; exact lM.out)
  refine (kb25 _ _ _ _ _ RM).mono ?_; rintro e w6 ⟨rfl, B3⟩
  replace B3 := step_below (below_new _ _) B3
  replace B := step_below B B3
  replace BR := step_below BR B3
  replace lA := Lib.hid (lA.out.below B3)
  replace lR := Lib.hid (lR.out.below B3)
  clear B3
  clear lM RM
  go_wp2_with fail
  refine (kw1 _ _ _ _ _ (lit1 _ [97] 1 _ _ rfl rfl)).mono ?_; rintro e w7 ⟨bW, oW, cW, rfl, kW0, kW1, B3⟩
  replace B3 := step_below (b2 _ _ _) B3
  replace B := step_below B B3
  replace BR := step_below BR B3
  replace lA := Lib.hid (lA.out.below B3)
  replace lR := Lib.hid (lR.out.below B3)
  clear B3
  have lW : ∀ W, Below w7.heap.size w7 W → W.cell? ⟨bW, oW, none⟩ = some (.int .u64 3) ∧ W.cell? ⟨bW, oW + 1, none⟩ = some (.int .u64 72445721642532864) := fun W b => ⟨(b.cell (p := ⟨bW, oW, none⟩) (World.block_lt_of_cell? _ _ kW0)).trans kW0, (b.cell (p := ⟨bW, oW + 1, none⟩) (World.block_lt_of_cell? _ _ kW1)).trans kW1⟩
  replace lW := Lib.hid lW
  have BW : Below w7.heap.size w7 w7 := Below.refl _ _
  clear kW0 kW1
  go_wp2_with fail
  have h2 := two_ls w7 [97, 0] [107] 2 1 #[.int .u8 97, .int .u8 0] #[.int .u8 107] (2, 3) (1, 2) rfl rfl rfl rfl
  refine (ke1 _ _ _ _ _ h2.1 h2.2).mono ?_; rintro e w8 ⟨aX, cX, rfl, lX, B3⟩
  clear h2
  replace B3 := step_below (b2 _ _ _) B3
  replace BW := step_below BW B3
  replace B := step_below B B3
  replace BR := step_below BR B3
  replace lA := Lib.hid (lA.out.below B3)
  replace lR := Lib.hid (lR.out.below B3)
  clear B3
  replace lX := Lib.hid lX
  go_wp2_with fail
  refine (ks1 _ _ _ lX.out).mono ?_; rintro e w9 ⟨aY, cY, aZ, cZ, rfl, lY, lZ, B3⟩
  replace BW := step_below BW B3
  replace B := step_below B B3
  replace BR := step_below BR B3
  replace lA := Lib.hid (lA.out.below B3)
  replace lR := Lib.hid (lR.out.below B3)
  replace lX := Lib.hid (lX.out.below B3)
  clear B3
  replace lY := Lib.hid lY
  replace lZ := Lib.hid lZ
  go_wp2_with fail
  refine (ks2 _ _ _ (ls_new .u8 _ [97] _ _ _ rfl 1 rfl)).mono ?_; rintro e w10 ⟨_, _, _, _, rfl, _, _, B3⟩
  replace B3 := step_below (below_new _ _) B3
  replace BW := step_below BW B3
  replace B := step_below B B3
  replace BR := step_below BR B3
  replace lA := Lib.hid (lA.out.below B3)
  replace lR := Lib.hid (lR.out.below B3)
  replace lX := Lib.hid (lX.out.below B3)
  replace lY := Lib.hid (lY.out.below B3)
  replace lZ := Lib.hid (lZ.out.below B3)
  clear B3
  go_wp2_with fail
  refine (ke2 _ _ _ (ls_new .u8 _ [97] _ _ _ rfl 1 rfl)).mono ?_; rintro e w11 ⟨rfl, B3⟩
  replace B3 := step_below (below_new _ _) B3
  replace BW := step_below BW B3
  replace B := step_below B B3
  replace BR := step_below BR B3
  replace lA := Lib.hid (lA.out.below B3)
  replace lR := Lib.hid (lR.out.below B3)
  replace lX := Lib.hid (lX.out.below B3)
  replace lY := Lib.hid (lY.out.below B3)
  replace lZ := Lib.hid (lZ.out.below B3)
  clear B3
  go_wp2_with fail
  refine (kf1 _ _ _ (ls_new .u8 _ [97, 0] _ _ _ rfl 2 rfl)).mono ?_; rintro e w12 ⟨aO, cO, rfl, lO, B3⟩
  replace B3 := step_below (below_new _ _) B3
  replace BW := step_below BW B3
  replace B := step_below B B3
  replace BR := step_below BR B3
  replace lA := Lib.hid (lA.out.below B3)
  replace lR := Lib.hid (lR.out.below B3)
  replace lX := Lib.hid (lX.out.below B3)
  replace lY := Lib.hid (lY.out.below B3)
  replace lZ := Lib.hid (lZ.out.below B3)
  clear B3
  replace lO := Lib.hid lO
  go_wp2_with (at_make; refine wpList_make_full _ rfl _ _ 24 rfl 0 5 i0 (.int .u8 0) 1 Try.underlying24 hi hz0 hz1 .i64 .i64 _ _ 25 rfl rfl rfl rfl (by rw [hz2]; omega) (by unfold maxLen; omega) (Nat.zero_le _) ?_)
  intro w13 hown hgrow
  have B3 : Below w12.heap.size w12 w13 := (Below.refl _ _).grown hgrow (Nat.le_refl _) (fun j hj => by cases hj)
  have lM : Ls .u8 w13 (some ⟨w12.heap.size, 0, none⟩) 25 (List.replicate 25 0) := by
    obtain ⟨a', c', e, l', _⟩ := own_ls (K := .u8) (L := List.replicate 25 0) (n := 25) (by rw [← made25]; exact hown) rfl
    cases e
    exact l'
  replace BW := step_below BW B3
  replace B := step_below B B3
  replace BR := step_below BR B3
  replace lA := Lib.hid (lA.out.below B3)
  replace lR := Lib.hid (lR.out.below B3)
  replace lX := Lib.hid (lX.out.below B3)
  replace lY := Lib.hid (lY.out.below B3)
  replace lZ := Lib.hid (lZ.out.below B3)
  replace lO := Lib.hid (lO.out.below B3)
  clear B3
  clear hown hgrow lM
  go_wp2_with fail
  refine (front_bad _ 25 _ (by omega) _).mono ?_; rintro e w14 ⟨rfl, B3⟩
  replace BW := step_below BW B3
  replace B := step_below B B3
  replace BR := step_below BR B3
  replace lA := Lib.hid (lA.out.below B3)
  replace lR := Lib.hid (lR.out.below B3)
  replace lX := Lib.hid (lX.out.below B3)
  replace lY := Lib.hid (lY.out.below B3)
  replace lZ := Lib.hid (lZ.out.below B3)
  replace lO := Lib.hid (lO.out.below B3)
  clear B3
  have q1 := kc_ls aA 6 cA _ ⟨#[2, 1, 97, 2, 98, 99]⟩ rfl rfl _ lA.out
  have q2 := kc_ls adR 2 cpR _ ⟨#[98, 99]⟩ rfl rfl _ lR.out
  have q3 := kc_ls aX 6 cX _ ⟨#[97, 0, 255, 0, 1, 107]⟩ rfl rfl _ lX.out
  have q4 := kc_ls aY 2 cY _ ⟨#[97, 0]⟩ rfl rfl _ lY.out
  have q5 := kc_ls aZ 1 cZ _ ⟨#[107]⟩ rfl rfl _ lZ.out
  have q6 := kc_ls aO 3 cO _ ⟨#[97, 0, 255]⟩ rfl rfl _ lO.out
  have q7 := lK.out _ BR
  obtain ⟨q8, q9⟩ := lW.out _ BW
  clear lA lR lX lY lZ lO lK lW BR BW
  go_wp2_with (go_at_call 24; refine (num_law _ _).mono ?_; rintro e w' ⟨rfl, rfl⟩)
  go_ret
  exact ⟨rfl, B⟩
end Go.Proofs.Ytkgcbhpgkcfkhaa
