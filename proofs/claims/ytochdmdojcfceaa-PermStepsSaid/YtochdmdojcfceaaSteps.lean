/- Whatever is done from the first perm on: the law's walk. -/
import Derived.Test.YtochdmdojcfceaaIns
import Derived.Deep.CutBlock
import Derived.Deep.RegionHeld3
import Derived.Deep.DeepCutAuto
namespace Go.Proofs.Ytochdmdojcfceaa
open Go.ChangeShapes Go.WideShapes Go.ChangeAt Go.RowKit Go.Shelf
open PM
set_option linter.unusedVariables false
set_option linter.unusedSimpArgs false

/-- A word that steps led to: from some place on, that the width bounds, every place stands where it stood first. -/
structure Inv (width : Int) (n : Nat) (l : List Nat) : Prop where
  wrd : Wrd n l
  ok : okB l = true
  high : ∃ m, m ≤ 15 ∧ n ≤ m ∧ ((m : Int) ≤ width ∨ m = 0) ∧ ∀ k, m ≤ k → k < 15 → l.getD k 0 = k
theorem Inv.first (width : Int) : Inv width 0 l0 := ⟨W0, by kernel_rfl, 0, by omega, by omega, .inr rfl, fun k _ hk => by
  rcases (show k = 0 ∨ k = 1 ∨ k = 2 ∨ k = 3 ∨ k = 4 ∨ k = 5 ∨ k = 6 ∨ k = 7 ∨ k = 8 ∨ k = 9 ∨ k = 10 ∨ k = 11 ∨ k = 12 ∨ k = 13 ∨ k = 14 from by omega) with rfl | rfl | rfl | rfl | rfl | rfl | rfl | rfl | rfl | rfl | rfl | rfl | rfl | rfl | rfl <;> rfl⟩
theorem Inv.insert {width : Int} {n : Nat} {l : List Nat} (h : Inv width n l) (j : Nat) (hj : j ≤ n) (hn : (n : Int) < width) (h15 : width ≤ 15) : Inv width (n + 1) (mvd l n j) := by
  have hw := mvd_wrd h.wrd n j (by omega) (by omega)
  obtain ⟨m, h1, h2, h3, h4⟩ := h.high
  refine ⟨⟨by omega, hw.len, hw.dig⟩, mvd_ok (m := n) h.wrd h.ok (by omega) (by omega) (by omega), ?_⟩
  by_cases e : n = m
  · refine ⟨m + 1, by omega, by omega, .inl (by omega), fun k hk hk15 => ?_⟩
    rw [mvd_get h.wrd n j k (by omega) (by omega), if_neg (by omega), if_neg (by omega), if_neg (by omega)]
    exact h4 k (by omega) hk15
  · refine ⟨m, h1, by omega, h3, fun k hk hk15 => ?_⟩
    rw [mvd_get h.wrd n j k (by omega) (by omega), if_neg (by omega), if_neg (by omega), if_neg (by omega)]
    exact h4 k (by omega) hk15
theorem Inv.remove {width : Int} {n : Nat} {l : List Nat} (h : Inv width n l) (i : Nat) (hi : i < n) : Inv width (n - 1) (mvd l i (n - 1)) := by
  have h16 := h.wrd.n16
  have hw := mvd_wrd h.wrd i (n - 1) (by omega) (by omega)
  obtain ⟨m, h1, h2, h3, h4⟩ := h.high
  refine ⟨⟨by omega, hw.len, hw.dig⟩, mvd_ok (m := n) h.wrd h.ok (by omega) (by omega) (by omega), m, h1, by omega, h3, fun k hk hk15 => ?_⟩
  rw [mvd_get h.wrd i (n - 1) k (by omega) (by omega), if_neg (by omega), if_neg (by omega), if_neg (by omega)]
  exact h4 k hk hk15
theorem Inv.cut {width : Int} {n : Nat} {l : List Nat} (h : Inv width n l) (k : Nat) (hk : k ≤ n) : Inv width k l := by
  have h16 := h.wrd.n16
  obtain ⟨m, h1, h2, h3, h4⟩ := h.high
  exact ⟨⟨by omega, h.wrd.len, h.wrd.dig⟩, h.ok, m, h1, by omega, h3, h4⟩
theorem Inv.below {width : Int} {n : Nat} {l : List Nat} (h : Inv width n l) (k : Nat) (hk : k < n) : ((l.getD k 0 : Nat) : Int) < width := by
  have h16 := h.wrd.n16
  have hlen := h.wrd.len
  obtain ⟨m, h1, h2, h3, h4⟩ := h.high
  obtain ⟨g1, g2⟩ := okB_lt h.wrd h.ok
  have hv : l.getD k 0 < m := by
    apply Decidable.byContradiction
    intro hh
    have e : l.getD k 0 = l[k] := by simp [List.getD, List.getElem?_eq_getElem (show k < l.length by omega)]
    have hlt := g1 _ (List.getElem_mem (show k < l.length by omega))
    rw [← e] at hlt
    have h5 := h4 (l.getD k 0) (by omega) hlt
    rw [List.Nodup, List.pairwise_iff_getElem] at g2
    have := g2 k (l.getD k 0) (by omega) (by omega) (by omega)
    apply this
    rw [← e]
    simp only [List.getD] at h5 ⊢
    rw [List.getElem?_eq_getElem (show l[k]?.getD 0 < l.length by simp only [List.getD] at hlt; omega)] at h5
    simpa using h5.symm
  omega
theorem Inv.count {width : Int} {n : Nat} {l : List Nat} (h : Inv width n l) : (n : Int) ≤ width ∨ n = 0 := by
  obtain ⟨m, h1, h2, h3, h4⟩ := h.high
  omega

/-- Steps that lie somewhere. -/
def Stp (w : World) (a : Option Addr) (n : Nat) (K I : Nat → Int) : Prop := ∀ k < n, ∃ b off, a = some ⟨b, off, none⟩ ∧ w.cell? ⟨b, off + k * 2, none⟩ = some (.int .i64 (K k)) ∧ w.cell? ⟨b, off + k * 2 + 1, none⟩ = some (.int .i64 (I k))
theorem Stp.below {w w' : World} {a : Option Addr} {n : Nat} {X L : Nat → Int} (h : Stp w a n X L) (hb : Below w.heap.size w w') : Stp w' a n X L := fun k hk => by
  obtain ⟨b, off, e, h1, h2⟩ := h k hk
  exact ⟨b, off, e, (hb.cell (p := ⟨b, off + k * 2, none⟩) (World.block_lt_of_cell? w _ h1)).trans h1, (hb.cell (p := ⟨b, off + k * 2 + 1, none⟩) (World.block_lt_of_cell? w _ h2)).trans h2⟩

theorem rem_ins {n : Nat} {l : List Nat} (h : Wrd n l) (ho : okB l = true) (hn : n < 15) (j : Nat) (hj : j ≤ n) : remV (n + 1) (mvd l n j) j = (enc (n :: l), l.getD n 0, 0) := by
  have hok2 := mvd_ok (m := n + 1) h ho (i := n) (j := j) (by omega) (by omega) (by omega)
  unfold remV
  rw [if_pos ⟨hok2, by omega, by omega⟩, Int.toNat_natCast, Nat.add_sub_cancel, mvd_back h n j (by omega) (by omega), mvd_get h n j j (by omega) (by omega), if_neg (by omega), if_pos rfl]
theorem remV_bad {n : Nat} {l : List Nat} {i : Int} (h : (remV n l i).2.2 ≠ 0) : remV n l i = (0, 0, 2) := by
  unfold remV at h ⊢
  split
  · rename_i h1; rw [if_pos h1] at h; exact absurd rfl h
  · rfl
theorem remV_ok {n : Nat} {l : List Nat} {i : Int} (h : (remV n l i).2.2 = 0) : okB l = true ∧ 0 ≤ i ∧ i < n ∧ remV n l i = (enc ((n - 1) :: mvd l i.toNat (n - 1)), l.getD i.toNat 0, 0) := by
  unfold remV at h ⊢
  split at h
  · rename_i h1; rw [if_pos h1]; exact ⟨h1.1, h1.2.1, h1.2.2, rfl⟩
  · exact absurd h (by decide)
theorem cutV_bad {n : Nat} {l : List Nat} {k : Int} (h : (cutV n l k).2.2 ≠ 0) : cutV n l k = (0, [], 2) := by
  unfold cutV at h ⊢
  split
  · rename_i h1; rw [if_pos h1] at h; exact absurd rfl h
  · rfl
theorem cutV_ok {n : Nat} {l : List Nat} {k : Int} (h : (cutV n l k).2.2 = 0) : okB l = true ∧ 0 ≤ k ∧ k ≤ n ∧ cutV n l k = (enc (k.toNat :: l), (usV n l).drop k.toNat, 0) := by
  unfold cutV at h ⊢
  split at h
  · rename_i h1; rw [if_pos h1]; exact ⟨h1.1, h1.2.1, h1.2.2, rfl⟩
  · exact absurd h (by decide)

/-- A step in a block of its own, and how the world stands to the one at the call. -/
structure Own2 (w : World) (B : Nat) (x y : Int) (W : World) : Prop where
  c0 : W.cell? ⟨B, 0, none⟩ = some (.int .i64 x)
  c1 : W.cell? ⟨B, 1, none⟩ = some (.int .i64 y)
  below : Below w.heap.size w W
theorem Own2.next {w : World} {B : Nat} {x y : Int} {W W' : World} (h : Own2 w B x y W) (hb : Below W.heap.size W W') : Own2 w B x y W' :=
  have hl : B < W.heap.size := World.block_lt_of_cell? W _ h.c0
  ⟨(hb.cell (p := ⟨B, 0, none⟩) hl).trans h.c0, (hb.cell (p := ⟨B, 1, none⟩) hl).trans h.c1, step_below h.below hb⟩
theorem Own2.drew {w : World} {B : Nat} {x y : Int} {W : World} (h : Own2 w B x y W) : Own2 w B x y W.drew := ⟨h.c0, h.c1, h.below.drew⟩
theorem Own2.new {w W : World} (x y : Int) (h : Below w.heap.size w W) : Own2 w W.heap.size x y (W.alloc (.cells #[.int .i64 x, .int .i64 y] 62)) :=
  ⟨by simp [go_sem], by simp [go_sem], h.alloc h.size _⟩

set_option maxRecDepth 100000 in
set_option maxHeartbeats 4000000 in
theorem steps_law (width : Int) (a : Option Addr) (n cap : Nat) (K I : Nat → Int) (w : World) (hS : Stp w a n K I) :
    Calls Try.prog 7 #[.int .i64 width, .slice a n cap] w fun e w' => e = .returned (.bool true) ∧ Below w.heap.size w w' := by
  have HS := Lib.hid hS
  clear hS
  have hP0 : ((P0 : Nat) : Int) = ((enc (0 :: l0) : Nat) : Int) := rfl
  have HP0 := Lib.hid hP0
  clear hP0
  go_enter Try.func7, Try.ntmps7
  go_wp2_with fail
  refine (known_law _).mono ?_; rintro e W1 ⟨rfl, B1⟩
  go_wp2_with fail
  refine (first_law _).mono ?_; rintro e W2 ⟨rfl, B2⟩
  replace B2 := step_below B1 B2
  clear B1
  go_wp2_with fail
  go_loopw [5, 6] (fun p i wr => ∃ (k m : Nat) (l : List Nat), i = .int .i64 k ∧ p = .int .u64 ((enc (m :: l) : Nat) : Int) ∧ Inv width m l ∧ Below w.heap.size w wr ∧ k ≤ 300) (fun _ i _ => 301 - (intOf i).toNat)
  case atStart => exact ⟨0, 0, l0, rfl, by rw [HP0.out], Inv.first _, B2, by omega⟩
  case round =>
    clear B2
    obtain ⟨k, m, l, rfl, rfl, hI, B, hk3⟩ := hrel
    have HI := Lib.hid hI
    clear hI
    by_cases hlt : k < n ∧ k < 300
    · obtain ⟨hlt, h300⟩ := hlt
      have hkl : (k : Int) < (n : Int) := by omega
      have hk300 : (k : Int) < 300 := by omega
      obtain ⟨b, off, e, c0, c1⟩ := HS.out.below B k hlt
      subst e
      have hp := HI.out.wrd.lt
      go_upto_block 2 with (fail)
      have HX := Own2.new (K k) (I k) B
      have Y1 := HX.c1
      clear c0 c1
      obtain ⟨W0, hW0⟩ : ∃ W0, wr.alloc (.cells #[.int .i64 (K k), .int .i64 (I k)] 62) = W0 := ⟨_, rfl⟩
      rw [hW0] at HX Y1 ⊢
      clear hW0 B
      obtain ⟨Bx, hBx⟩ : ∃ Bx, wr.heap.size = Bx := ⟨_, rfl⟩
      rw [hBx] at HX Y1 ⊢
      clear hBx
      obtain ⟨kk, hkk⟩ : ∃ kk, K k = kk := ⟨_, rfl⟩
      obtain ⟨ii, hii⟩ : ∃ ii, I k = ii := ⟨_, rfl⟩
      rw [hkk, hii] at HX ⊢
      rw [hii] at Y1
      clear hkk hii
      go_cut [5] (fun p wx => ∃ (m' : Nat) (l' : List Nat), p = .int .u64 ((enc (m' :: l') : Nat) : Int) ∧ Inv width m' l' ∧ Below w.heap.size w wx)
      case first =>
        rcases (show kk = 1 ∨ kk = 2 ∨ kk = 3 ∨ (kk ≠ 1 ∧ kk ≠ 2 ∧ kk ≠ 3) from by omega) with rfl | rfl | rfl | ⟨n1, n2, n3⟩
        · by_cases hb : (insV m l ii width).2.2 = 0
          · obtain ⟨g1, g2, g3, g4, g5, g6, g7⟩ := insV_ok hb
            obtain ⟨j, rfl⟩ : ∃ j : Nat, ii = j := ⟨ii.toNat, by omega⟩
            have hinv := HI.out.insert j (by omega) g6 g3
            have hrem := rem_ins HI.out.wrd HI.out.ok (by omega) j (by omega)
            rw [Int.toNat_natCast] at g7
            obtain ⟨m2, hm2⟩ : ∃ m2, mvd l m j = m2 := ⟨_, rfl⟩
            obtain ⟨d, hd⟩ : ∃ d, l.getD m 0 = d := ⟨_, rfl⟩
            rw [hm2, hd] at hrem g7
            rw [hm2] at hinv
            have c_ins := Lib.hid (fun w => ins_at m l j width _ d 0 g7 HI.out.wrd w)
            have c_rem := Lib.hid (fun w => rem_at (m + 1) m2 j _ d 0 hrem hinv.wrd w)
            obtain ⟨P, hP⟩ : ∃ P, ((enc (m :: l) : Nat) : Int) = P := ⟨_, rfl⟩
            obtain ⟨R, hR⟩ : ∃ R, ((enc ((m + 1) :: m2) : Nat) : Int) = R := ⟨_, rfl⟩
            rw [hP] at c_ins c_rem ⊢
            rw [hR] at c_ins c_rem
            have HR := Lib.hid hR
            have HINV := Lib.hid hinv
            have t1 : (P != P) = false := by simp
            have t2 : ((d : Int) != (d : Int)) = false := by simp
            clear g7 hrem hm2 hd hP hR hinv hb hp g1 g2 g3 g4 g5 g6
            go_wp2_with fail
            refine (c_ins.out _).mono ?_; rintro e' W1 ⟨rfl, B1⟩
            replace HX := HX.next B1
            clear Y1
            have Y1 := HX.c1
            go_wp2_with fail
            refine (num_law _ _).mono ?_; rintro e w' ⟨rfl, rfl⟩
            go_wp2_with fail
            refine (c_rem.out _).mono ?_; rintro e' W2 ⟨rfl, B2⟩
            replace HX := HX.next B2
            clear Y1
            go_wp2_with fail
            refine (num_law _ _).mono ?_; rintro e w' ⟨rfl, rfl⟩
            go_wp2_with fail
            go_meet
            case rel => exact ⟨m + 1, m2, by rw [HR.out], HINV.out, HX.below⟩
          · obtain ⟨e, he, hne⟩ := insV_bad hb
            have c_ins := Lib.hid (fun w => ins_at m l ii width 0 0 e he HI.out.wrd w)
            have t : (e != 0) = true := by simpa using hne
            clear hb he hne
            go_wp2_with fail
            refine (c_ins.out _).mono ?_; rintro e' W1 ⟨rfl, B1⟩
            have HX1 := HX.next B1
            go_wp2_with fail
            refine (num_law _ _).mono ?_; rintro e w' ⟨rfl, rfl⟩
            go_wp2_with fail
            go_meet
            case rel => exact ⟨m, l, rfl, HI.out, HX1.below⟩
        · by_cases hb : (remV m l ii).2.2 = 0
          · obtain ⟨g1, g2, g3, g4⟩ := remV_ok hb
            obtain ⟨j, rfl⟩ : ∃ j : Nat, ii = j := ⟨ii.toNat, by omega⟩
            have h16 := HI.out.wrd.n16
            have hinv := HI.out.remove j (by omega)
            have hget := mvd_get HI.out.wrd j (m - 1) (m - 1) (by omega) (by omega)
            rw [if_neg (by omega), if_pos rfl] at hget
            rw [Int.toNat_natCast] at g4
            obtain ⟨m2, hm2⟩ : ∃ m2, mvd l j (m - 1) = m2 := ⟨_, rfl⟩
            obtain ⟨d, hd⟩ : ∃ d, l.getD j 0 = d := ⟨_, rfl⟩
            rw [hm2, hd] at g4 hget
            rw [hm2] at hinv
            have c_rem := Lib.hid (fun w => rem_at m l j _ d 0 g4 HI.out.wrd w)
            have hf : frV (m - 1) m2 = m2.drop (m - 1) := by unfold frV; rw [if_pos hinv.ok]
            obtain ⟨f, hfe⟩ : ∃ f, m2.drop (m - 1) = f := ⟨_, rfl⟩
            have hf0 : f.getD 0 0 = d := by rw [← hfe, ← hget]; simp [List.getD]
            have hfl : f.length = 15 - (m - 1) := by rw [← hfe]; simp [hinv.wrd.len]
            rw [hfe] at hf
            have c_free := Lib.hid (fun w => free_rd (m - 1) m2 f hf hinv.wrd w)
            obtain ⟨q, hq⟩ : ∃ q, f.length = q := ⟨_, rfl⟩
            rw [hq] at c_free hfl
            have hq0 : 0 < q := by omega
            have hq0i : (0 : Int) < (q : Int) := by omega
            have t3 : ((q : Int) == 0) = false := by rw [beq_eq_false_iff_ne]; omega
            have t2 : ((d : Int) != (d : Int)) = false := by simp
            have HQ := Lib.hid hq
            have HF0 := Lib.hid hf0
            obtain ⟨P, hP⟩ : ∃ P, ((enc (m :: l) : Nat) : Int) = P := ⟨_, rfl⟩
            obtain ⟨R, hR⟩ : ∃ R, ((enc ((m - 1) :: m2) : Nat) : Int) = R := ⟨_, rfl⟩
            rw [hP] at c_rem ⊢
            rw [hR] at c_rem c_free
            have HR := Lib.hid hR
            have HINV := Lib.hid hinv
            clear g4 hget hm2 hd hP hR hinv hb hp hf hfe hf0 hfl hq g1 g2 g3
            go_wp2_with fail
            refine (c_rem.out _).mono ?_; rintro e' W1 ⟨rfl, B1⟩
            replace HX := HX.next B1
            clear Y1
            go_wp2_with fail
            refine (num_law _ _).mono ?_; rintro e w' ⟨rfl, rfl⟩
            go_wp2_with fail
            refine (c_free.out _).mono ?_; rintro e W2 ⟨fa, fc, rfl, _, _, _, B2⟩
            replace HX := HX.next B2
            go_wp2_with fail
            refine (c_free.out _).mono ?_; rintro e W3 ⟨ga, gc, rfl, _, hgr, hgs, B3⟩
            replace HX := HX.next B3
            obtain ⟨g, rfl⟩ := hgs hq0
            obtain ⟨b1, o1, e1, c1⟩ := hgr 0 (by rw [ints_length, HQ.out]; exact hq0)
            cases e1
            rw [ints_get _ _ (by rw [HQ.out]; exact hq0), HF0.out] at c1
            simp only [Nat.add_zero] at c1
            clear hgr hgs
            go_wp2_with fail
            refine (num_law _ _).mono ?_; rintro e w' ⟨rfl, rfl⟩
            go_wp2_with fail
            go_meet
            case rel => exact ⟨m - 1, m2, by rw [HR.out], HINV.out, HX.below⟩
          · have he := remV_bad hb
            have c_rem := Lib.hid (fun w => rem_at m l ii 0 0 2 he HI.out.wrd w)
            clear hb he
            go_wp2_with fail
            refine (c_rem.out _).mono ?_; rintro e' W1 ⟨rfl, B1⟩
            replace HX := HX.next B1
            clear Y1
            go_wp2_with fail
            refine (num_law _ _).mono ?_; rintro e w' ⟨rfl, rfl⟩
            go_wp2_with fail
            refine (num_law _ _).mono ?_; rintro e w' ⟨rfl, rfl⟩
            go_wp2_with fail
            go_meet
            case rel => exact ⟨m, l, rfl, HI.out, HX.below⟩
        · have hmx : Try.prog.follows .mixedOrders = true := by kernel_rfl
          by_cases hb : (cutV m l ii).2.2 = 0
          · obtain ⟨g1, g2, g3, g4⟩ := cutV_ok hb
            obtain ⟨j, rfl⟩ : ∃ j : Nat, ii = j := ⟨ii.toNat, by omega⟩
            have h16 := HI.out.wrd.n16
            have hinv := HI.out.cut j (by omega)
            rw [Int.toNat_natCast] at g4
            have hc1 : cV m l = m := by unfold cV; rw [if_pos g1]
            have hc2 : cV j l = j := by unfold cV; rw [if_pos g1]
            obtain ⟨c, hce⟩ : ∃ c, (usV m l).drop j = c := ⟨_, rfl⟩
            have hcl : c.length = m - j := by rw [← hce, List.length_drop, usV_length, hc1]
            rw [hce] at g4
            have c_cut := Lib.hid (fun w => cut_at m l c j _ 0 g4 HI.out.wrd w)
            have c_cnt := Lib.hid (fun (x : Nat) (hx : x ≤ m) w => count_at x l x (by unfold cV; rw [if_pos g1]) (HI.out.cut x hx).wrd w)
            obtain ⟨q, hq⟩ : ∃ q, c.length = q := ⟨_, rfl⟩
            rw [hq] at c_cut hcl
            have t1 : ((j : Int) != (j : Int)) = false := by simp
            have t2 : ((q : Int) != (m : Int) - (j : Int)) = false := by simp; omega
            have hjm : (j : Int) ≤ (m : Int) := by omega
            have hjmN : j ≤ m := by omega
            have hmm : (m : Int) ≤ 15 := by omega
            have HINV := Lib.hid hinv
            have hsub : IntKind.i64.wrap ((m : Int) - (j : Int)) = (m : Int) - (j : Int) := IntWalk.i64_in _ (by omega)
            have HSUB := Lib.hid hsub
            clear g4 hc1 hc2 hce hcl hq hinv hb hp g1 g2 g3 hsub
            go_wp2_with fail
            refine (c_cut.out _).mono ?_; rintro e' W1 ⟨ca, cc, rfl, _, B1⟩
            replace HX := HX.next B1
            clear Y1
            go_wp2_with fail
            have hsub := HSUB.out
            have Y1 := HX.c1
            go_region_held3 (fun W => W.cell? ⟨Bx, 1, none⟩ = some (.int .i64 (j : Int)) ∧ Own2 w Bx 3 (j : Int) W)
              (first | (exact ⟨Y1, HX.drew⟩) | (go_split_ands; exact ⟨(Own2.next ‹_› B4).c1, Own2.next ‹_› B4⟩) | (go_split_ands; exact ⟨‹_›, ‹_›⟩))
              (first | (go_at_call 21; refine (num_law _ _).mono ?_; rintro e W4 ⟨rfl, rfl⟩) | (go_at_call 17; refine (c_cnt.out _ (by omega) _).mono ?_; rintro e W4 ⟨rfl, B4⟩))
            go_split_ands
            have hO := Own2.below ‹_›
            clear hsub
            go_wp2_with fail
            refine (num_law _ _).mono ?_; rintro e w' ⟨rfl, rfl⟩
            go_wp2_with fail
            go_meet
            case rel => exact ⟨j, l, rfl, HINV.out, hO⟩
          · have he := cutV_bad hb
            have c_cut := Lib.hid (fun w => cut_at m l [] ii 0 2 he HI.out.wrd w)
            clear hb he
            go_wp2_with fail
            refine (c_cut.out _).mono ?_; rintro e' W1 ⟨ca, cc, rfl, _, B1⟩
            replace HX := HX.next B1
            clear Y1
            go_wp2_with fail
            have Y1 := HX.c1
            have t20 : ((2 : Int) == 0) = false := by rfl
            go_quiet ((go_at_call 21; exact Calls.quiet_of_same ((num_law _ _).mono fun _ _ ⟨a, b⟩ => ⟨a, b.symm⟩)))
            go_wp2_with fail
            refine (num_law _ _).mono ?_; rintro e w' ⟨rfl, rfl⟩
            go_wp2_with fail
            go_meet
            case rel => exact ⟨m, l, rfl, HI.out, below_drewN HX.below _⟩
        · have t1 : (kk == 1) = false := by simpa using n1
          have t2 : (kk == 2) = false := by simpa using n2
          have t3 : (kk == 3) = false := by simpa using n3
          clear n1 n2 n3
          go_wp2_with fail
          go_meet
          case rel => exact ⟨m, l, rfl, HI.out, HX.below⟩
      case rest =>
        obtain ⟨m', l', rfl, hI', B'⟩ := hcut
        clear HI HX Y1 hp
        have hc : cV m' l' = m' := by unfold cV; rw [if_pos hI'.ok]
        have hul : (usV m' l').length = m' := by rw [usV_length, hc]
        have hfl : (frV m' l').length = 15 - m' := by unfold frV; rw [if_pos hI'.ok]; simp [hI'.wrd.len]
        have hug : ∀ j, j < m' → ((usV m' l').getD j 0 : Int) < width := fun j hj => by
          rw [usV_take m' l' hI'.wrd, hc, getD_take _ _ _ hj]; exact hI'.below j hj
        have h16 := hI'.wrd.n16
        have hcnt := hI'.count
        obtain ⟨u, hu⟩ : ∃ u, usV m' l' = u := ⟨_, rfl⟩
        obtain ⟨f, hf⟩ : ∃ f, frV m' l' = f := ⟨_, rfl⟩
        rw [hu] at hul hug
        rw [hf] at hfl
        have c_may := Lib.hid (fun w => may_at m' l' true hI'.ok hI'.wrd w)
        have c_cnt := Lib.hid (fun w => count_at m' l' m' hc hI'.wrd w)
        have c_used := Lib.hid (fun w => used_rd m' l' u hu hI'.wrd w)
        have c_free := Lib.hid (fun w => free_rd m' l' f hf hI'.wrd w)
        obtain ⟨q, hq⟩ : ∃ q, f.length = q := ⟨_, rfl⟩
        rw [hul] at c_used
        rw [hq] at c_free hfl
        have HI := Lib.hid hI'
        have HUL := Lib.hid hul
        have HUG := Lib.hid hug
        obtain ⟨p, hp⟩ : ∃ p, ((enc (m' :: l') : Nat) : Int) = p := ⟨_, rfl⟩
        have HP := Lib.hid hp
        rw [hp] at c_may c_cnt c_used c_free ⊢
        have hmi : (m' : Int) ≤ 15 := by omega
        have hqi : (m' : Int) + (q : Int) = 15 := by omega
        have HQI := Lib.hid hqi
        have hqb : (q : Int) ≤ 15 := by omega
        have hsum : ((m' : Int) + (q : Int) != 15) = false := by rw [hqi]; rfl
        clear hI' hc hul hug hu hf hq hfl hp hqi
        go_wp2_with fail
        refine (c_may.out _).mono ?_; rintro e W1 ⟨rfl, B1⟩
        replace B1 := step_below B' B1
        clear B'
        rcases (show (m' : Int) ≤ width ∨ (width < (m' : Int) ∧ m' = 0) from by omega) with hcw | ⟨hcw, hm0⟩
        · have hcw' : ¬ width < (m' : Int) := by omega
          clear hcnt
          go_wp2_with fail
          refine (c_cnt.out _).mono ?_; rintro e W2 ⟨rfl, B2⟩
          replace B2 := step_below B1 B2
          clear B1
          go_wp2_with fail
          refine (c_used.out _).mono ?_; rintro e W3 ⟨ua, uc, rfl, _, hur, _, _, B3⟩
          replace B3 := step_below B2 B3
          clear B2
          go_wp2_with fail
          refine (c_free.out _).mono ?_; rintro e W4 ⟨fa, fc, rfl, _, _, _, B4⟩
          have HUR := Lib.hid (hur.below B4)
          replace B4 := step_below B3 B4
          clear B3 hur
          go_wp2_with fail
          refine (c_cnt.out _).mono ?_; rintro e W5 ⟨rfl, B5⟩
          replace HUR := Lib.hid (HUR.out.below B5)
          replace B5 := step_below B4 B5
          clear B4
          go_wp2_with fail
          obtain ⟨wo, rfl⟩ : ∃ wo : World, wo = W5 := ⟨_, rfl⟩
          go_loopw [22] (fun i wr => ∃ j : Nat, j ≤ m' ∧ i = .int .i64 j ∧ Below wo.heap.size wo wr ∧ Below w.heap.size w wr) (fun i _ => m' - (intOf i).toNat)
          case atStart => exact ⟨0, by omega, rfl, Below.refl _ _, B5⟩
          case round =>
            clear B5
            obtain ⟨j, hj, rfl, B1, B⟩ := hrel
            by_cases hjl : j < m'
            · have hji : (j : Int) < (m' : Int) := by omega
              obtain ⟨b1, o1, e1, c1⟩ := HUR.out.below B1 j (by rw [ints_length, HUL.out]; exact hjl)
              rw [ints_get _ _ (by rw [HUL.out]; exact hjl)] at c1
              have hlt1 := HUG.out j hjl
              subst e1
              obtain ⟨x, hx⟩ : ∃ x, u.getD j 0 = x := ⟨_, rfl⟩
              rw [hx] at c1 hlt1
              have hn1 : ¬ width ≤ (x : Int) := by omega
              clear hx
              go_wp2_with fail
              go_roundw
              case rel => exact ⟨j + 1, by omega, by go_num, B1, B⟩
              case measure => simp [intOf]; omega
            · have hji : ¬ (j : Int) < (m' : Int) := by omega
              go_wp2_with fail
              go_roundw
              case rel => exact ⟨k + 1, m', l', by go_num, by rw [HP.out], HI.out, B, by omega⟩
              case measure => simp [intOf]; omega
        · have hm0i : ¬ (0 : Int) < (m' : Int) := by omega
          have HM0 := Lib.hid hm0
          clear hcnt hm0
          go_wp2_with fail
          refine (c_cnt.out _).mono ?_; rintro e W2 ⟨rfl, B2⟩
          replace B2 := step_below B1 B2
          clear B1
          go_wp2_with fail
          refine (c_cnt.out _).mono ?_; rintro e W2' ⟨rfl, B2'⟩
          replace B2 := step_below B2 B2'
          clear B2'
          go_wp2_with fail
          refine (c_used.out _).mono ?_; rintro e W3 ⟨ua, uc, rfl, _, hur, _, _, B3⟩
          replace B3 := step_below B2 B3
          clear B2
          go_wp2_with fail
          refine (c_free.out _).mono ?_; rintro e W4 ⟨fa, fc, rfl, _, _, _, B4⟩
          have HUR := Lib.hid (hur.below B4)
          replace B4 := step_below B3 B4
          clear B3 hur
          go_wp2_with fail
          refine (c_cnt.out _).mono ?_; rintro e W5 ⟨rfl, B5⟩
          replace HUR := Lib.hid (HUR.out.below B5)
          replace B5 := step_below B4 B5
          clear B4
          go_wp2_with fail
          obtain ⟨wo, rfl⟩ : ∃ wo : World, wo = W5 := ⟨_, rfl⟩
          go_loopw [22] (fun i wr => ∃ j : Nat, j ≤ m' ∧ i = .int .i64 j ∧ Below wo.heap.size wo wr ∧ Below w.heap.size w wr) (fun i _ => m' - (intOf i).toNat)
          case atStart => exact ⟨0, by omega, rfl, Below.refl _ _, B5⟩
          case round =>
            clear B5
            obtain ⟨j, hj, rfl, B1, B⟩ := hrel
            by_cases hjl : j < m'
            · exact absurd hjl (by have := HM0.out; omega)
            · have hji : ¬ (j : Int) < (m' : Int) := by omega
              go_wp2_with fail
              go_roundw
              case rel => exact ⟨k + 1, m', l', by go_num, by rw [HP.out], HI.out, B, by omega⟩
              case measure => simp [intOf]; omega
    · have hge : ¬ (k : Int) < (n : Int) ∨ ¬ (k : Int) < 300 := by omega
      have hp := HI.out.wrd.lt
      rcases (show ¬ (k : Int) < (n : Int) ∨ ((k : Int) < (n : Int) ∧ ¬ (k : Int) < 300) from by omega) with h1 | ⟨h1, h2⟩
      · clear hge
        go_wp2_with fail
        go_ret
        exact ⟨rfl, B⟩
      · clear hge
        go_wp2_with fail
        go_ret
        exact ⟨rfl, B⟩
end Go.Proofs.Ytochdmdojcfceaa
