/- Fronts and entries, by contracts. -/
import Derived.Test.YtkgcbhpgkcfkhaaGen
namespace Go.Proofs.Ytkgcbhpgkcfkhaa
open Go.ChangeShapes Go.WideShapes Go.ChangeAt Go.RowKit
set_option linter.unusedVariables false
set_option linter.unusedSimpArgs false

theorem num_law (e : Int) (w : World) : Calls Try.prog 24 #[.int .i64 e] w fun r w' => r = .returned (.int .i64 e) ∧ w = w' := by
  go_enter Try.func24, Try.ntmps24
  go_wp2
  go_ret
  exact ⟨rfl, rfl⟩
theorem mayfield_law (a : Option Addr) (n cap : Nat) (w : World) : Calls Try.prog 68 #[.slice a n cap] w fun r w' => r = .returned (.bool (decide (n ≤ 24))) ∧ w = w' := by
  by_cases h : n ≤ 24
  · rw [decide_eq_true h]
    have hi : (n : Int) ≤ 24 := by omega
    go_enter Try.func68, Try.ntmps68
    go_wp2
    go_ret
    exact ⟨rfl, rfl⟩
  · rw [decide_eq_false h]
    have hi : ¬ (n : Int) ≤ 24 := by omega
    go_enter Try.func68, Try.ntmps68
    go_wp2
    go_ret
    exact ⟨rfl, rfl⟩
def mayK (n : Nat) : Bool := decide (1 ≤ n ∧ n ≤ 32)
theorem maykey_law (a : Option Addr) (n cap : Nat) (w : World) : Calls Try.prog 20 #[.slice a n cap] w fun r w' => r = .returned (.bool (mayK n)) ∧ w = w' := by
  unfold mayK
  rcases (show n < 1 ∨ (1 ≤ n ∧ n ≤ 32) ∨ (1 ≤ n ∧ ¬ n ≤ 32) by omega) with h | ⟨h1, h2⟩ | ⟨h1, h2⟩
  · rw [decide_eq_false (by omega)]
    have hi : ¬ (1 : Int) ≤ (n : Int) := by omega
    go_enter Try.func20, Try.ntmps20
    go_wp2
    go_ret
    exact ⟨rfl, rfl⟩
  · rw [decide_eq_true (by omega)]
    have hi : (1 : Int) ≤ (n : Int) := by omega
    have hj : (n : Int) ≤ 32 := by omega
    go_enter Try.func20, Try.ntmps20
    go_wp2
    go_ret
    exact ⟨rfl, rfl⟩
  · rw [decide_eq_false (by omega)]
    have hi : (1 : Int) ≤ (n : Int) := by omega
    have hj : ¬ (n : Int) ≤ 32 := by omega
    go_enter Try.func20, Try.ntmps20
    go_wp2
    go_ret
    exact ⟨rfl, rfl⟩

def esc (x : Int) : List Int := if x = 0 then [0, 255] else [x]
def frontL : List Int → List Int
  | [] => []
  | x :: r => esc x ++ frontL r
theorem frontL_append : ∀ a b : List Int, frontL (a ++ b) = frontL a ++ frontL b
  | [], _ => rfl
  | x :: r, b => by simp only [List.cons_append, frontL, frontL_append r b, List.append_assoc]
theorem frontL_one (x : Int) : frontL [x] = esc x := by simp [frontL]
theorem frontL_len : ∀ a : List Int, (frontL a).length ≤ 2 * a.length
  | [] => by simp [frontL]
  | x :: r => by
    have := frontL_len r
    simp only [frontL, List.length_append, List.length_cons, esc]
    split <;> simp <;> omega
theorem frontL_byt : ∀ {a : List Int}, Byt a → Byt (frontL a)
  | [], _ => fun x hx => by simp [frontL] at hx
  | x :: r, h => by
    refine Byt.append (fun y hy => ?_) (frontL_byt fun y hy => h y (by simp [hy]))
    unfold esc at hy
    split at hy
    · simp at hy; omega
    · simp at hy; subst hy; exact h y (by simp)

set_option maxRecDepth 100000 in
set_option maxHeartbeats 2000000 in
theorem front_bad (a : Option Addr) (n cap : Nat) (hn : 24 < n) (w : World) :
    Calls Try.prog 29 #[.slice a n cap] w fun r w' => r = .returned (.tuple #[.slice none 0 0, .int .i64 2]) ∧ Below w.heap.size w w' := by
  have h := mayfield_law a n cap w
  rw [decide_eq_false (by omega)] at h
  go_enter Try.func29, Try.ntmps29
  go_wp2_with fail
  go_step3
  go_wp2_with fail
  refine h.mono ?_; rintro e w' ⟨rfl, rfl⟩
  go_wp2_with fail
  try rw [Exit.noGoto_ret]
  go_ret2
  exact ⟨rfl, Below.refl _ _⟩
set_option maxRecDepth 100000 in
set_option maxHeartbeats 2000000 in
theorem front_ok (a : Option Addr) (L : List Int) (n cap : Nat) (hL : L.length = n) (hn : n ≤ 24) (w : World) (hR : Ls .u8 w a cap L) :
    Calls Try.prog 29 #[.slice a n cap] w fun r w' => ∃ a' c', r = .returned (.tuple #[.slice a' (frontL L).length c', .int .i64 0]) ∧ Ls .u8 w' a' c' (frontL L) ∧ Below w.heap.size w w' := by
  have h := mayfield_law a n cap w
  rw [decide_eq_true hn] at h
  have HR := Lib.hid hR
  have HL := Lib.hid hL
  clear hR hL
  go_enter Try.func29, Try.ntmps29
  go_wp2_with fail
  go_step3
  go_wp2_with fail
  refine h.mono ?_; rintro e w' ⟨rfl, rfl⟩
  clear h
  go_wp2_with fail
  go_step3
  go_wp2_with fail
  go_loopw [4, 12] (fun v i wr => ∃ k : Nat, k ≤ n ∧ i = .int .i64 k ∧ wr.ownsRow w.heap.size 5 1 v (frontL (L.take k)).length (iv .u8 (frontL (L.take k))) ∧ Below w.heap.size w wr) (fun _ i _ => n - (intOf i).toNat)
  case atStart => exact ⟨0, by omega, rfl, World.ownsRow_nil _ _ _ _, Below.refl _ _⟩
  case round =>
    obtain ⟨k, hk, rfl, hown, B⟩ := hrel
    by_cases hlt : k < n
    · have hkl : (k : Int) < (n : Int) := by omega
      have hkL : k < L.length := by rw [HL.out]; exact hlt
      obtain ⟨b1, o1, e1, c1⟩ := (HR.out.below B).get k hkL
      subst e1
      have hs1 := B.size
      have hts := take_succ L k hkL
      have hfl := frontL_len (L.take k)
      rw [List.length_take] at hfl
      obtain ⟨x, hx⟩ : ∃ x, L.getD k 0 = x := ⟨_, rfl⟩
      rw [hx] at hts c1
      obtain ⟨F, hF⟩ : ∃ F, frontL (L.take k) = F := ⟨_, rfl⟩
      have hF2 : frontL (L.take (k + 1)) = F ++ esc x := by rw [hts, frontL_append, hF, frontL_one]
      rw [hF] at hown hfl
      obtain ⟨m, hm⟩ : ∃ m, F.length = m := ⟨_, rfl⟩
      rw [hm] at hown hfl
      have HF2 := Lib.hid hF2
      have HM := Lib.hid hm
      have hm48 := Lib.hid (show m ≤ 48 by omega)
      have HOWN := Lib.hid hown
      clear hts hx hF hF2 hm hfl hown
      by_cases q : x = 0
      · have t1 : (x != 0) = false := by simpa using q
        have HQ := Lib.hid (show esc x = [x] ++ [255] by rw [q]; rfl)
        clear q
        go_wp2_with (at_builtin; refine append_ls eltB rfl (.tmp 16) (.tmp 18) rfl w.heap.size _ m (iv .u8 F) rfl (HOWN.out.alloc _) _ _ 1 [x] rfl rfl (ls_new .u8 _ [x] _ _ _ rfl 1 rfl) (by have := hm48.out; omega) (by simp; omega) ?_)
        intro v2 w2 hown2 hgrow2
        rw [← iv_append] at hown2
        have B2 := (B.alloc hs1 _).grown hgrow2 (by simp; omega) (fun j hj => (HOWN.out.lt j hj).1)
        have hs2 := B2.size
        have HOWN2 := Lib.hid hown2
        clear hown2 hgrow2
        go_wp2_with (at_builtin; refine append_ls eltB rfl (.tmp 22) (.tmp 23) rfl w.heap.size v2 (m + 1) (iv .u8 (F ++ [x])) rfl (HOWN2.out.alloc _) _ _ 1 [255] rfl rfl (ls_new .u8 _ [255] _ _ _ rfl 1 rfl) (by have := hm48.out; omega) (by simp; omega) ?_)
        intro v3 w3 hown3 hgrow3
        rw [← iv_append] at hown3
        have B3 := (B2.alloc hs2 _).grown hgrow3 (by simp; omega) (fun j hj => (HOWN2.out.lt j hj).1)
        have HOWN3 := Lib.hid hown3
        clear hown3 hgrow3
        go_wp2_with fail
        go_roundw
        case rel => exact ⟨k + 1, by omega, by go_num, by rw [HF2.out, HQ.out, ← List.append_assoc, List.length_append, List.length_append, HM.out]; exact HOWN3.out, B3⟩
        case measure => simp [intOf]; omega
      · have t1 : (x != 0) = true := by simpa using q
        have HQ := Lib.hid (show esc x = [x] by rw [esc, if_neg q])
        clear q
        go_wp2_with (at_builtin; refine append_ls eltB rfl (.tmp 16) (.tmp 18) rfl w.heap.size _ m (iv .u8 F) rfl (HOWN.out.alloc _) _ _ 1 [x] rfl rfl (ls_new .u8 _ [x] _ _ _ rfl 1 rfl) (by have := hm48.out; omega) (by simp; omega) ?_)
        intro v2 w2 hown2 hgrow2
        rw [← iv_append] at hown2
        have B2 := (B.alloc hs1 _).grown hgrow2 (by simp; omega) (fun j hj => (HOWN.out.lt j hj).1)
        have hs2 := B2.size
        have HOWN2 := Lib.hid hown2
        clear hown2 hgrow2
        go_wp2_with fail
        go_roundw
        case rel => exact ⟨k + 1, by omega, by go_num, by rw [HF2.out, HQ.out, List.length_append, HM.out]; exact HOWN2.out, B2⟩
        case measure => simp [intOf]; omega
    · have hkl : ¬ (k : Int) < (n : Int) := by omega
      have e : k = n := by omega
      subst e
      rw [List.take_of_length_le (by rw [HL.out]; exact Nat.le_refl _)] at hown
      obtain ⟨a', c', rfl, l', _⟩ := own_ls hown rfl
      clear hown
      obtain ⟨m, hm⟩ : ∃ m, (frontL L).length = m := ⟨_, rfl⟩
      rw [hm]
      have HM := Lib.hid hm
      clear hm
      go_wp2_with fail
      try rw [Exit.noGoto_ret]
      go_ret2
      exact ⟨a', c', by rw [HM.out]; rfl, l', B⟩

/-- A slice of bytes, as it lies. -/
structure P1 where
  ad : Option Addr
  cap : Nat
  bs : List Int
def P1.v (p : P1) : Value := .slice p.ad p.bs.length p.cap
/-- A list of them that lies somewhere. -/
def RdR (W : World) (a : Option Addr) (R : List P1) : Prop := ∀ k p, R[k]? = some p → ∃ b off, a = some ⟨b, off, none⟩ ∧ W.cell? ⟨b, off + k, none⟩ = some p.v ∧ Ls .u8 W p.ad p.cap p.bs
theorem RdR.below {W W' : World} {a : Option Addr} {R : List P1} (h : RdR W a R) (hb : Below W.heap.size W W') : RdR W' a R := fun k p hp => by
  obtain ⟨b, off, e, hc, hl⟩ := h k p hp
  exact ⟨b, off, e, (hb.cell (p := ⟨b, off + k, none⟩) (World.block_lt_of_cell? W _ hc)).trans hc, hl.below hb⟩
theorem RdR.nil (W : World) (a : Option Addr) : RdR W a [] := fun k p h => by simp at h
theorem rdR_new (w : World) (R : List P1) (cs : Array Value) (t : TypeId) (fr : Nat × Nat) (h : cs = (R.map P1.v).toArray) (hl : ∀ p ∈ R, Ls .u8 w p.ad p.cap p.bs) : RdR (w.alloc (.cells cs t fr)) (some ⟨w.heap.size, 0, none⟩) R := fun k p hp => by
  refine ⟨_, _, rfl, by rw [cell_new, Nat.zero_add, h]; simp [hp], (hl p (List.mem_of_getElem? hp)).below ((Below.refl _ _).alloc (Nat.le_refl _) _)⟩
def flat (R : List P1) : List Int := (R.map P1.bs).flatten
theorem flat_take_succ (R : List P1) (k : Nat) (p : P1) (h : R[k]? = some p) : flat (R.take (k + 1)) = flat (R.take k) ++ p.bs := by
  unfold flat
  rw [List.take_add_one, h]
  simp
theorem flat_take_le (R : List P1) (k : Nat) : (flat (R.take k)).length ≤ (flat R).length := by
  have : flat R = flat (R.take k) ++ flat (R.drop k) := by unfold flat; rw [← List.flatten_append, ← List.map_append, List.take_append_drop]
  rw [this, List.length_append]; omega

set_option maxRecDepth 100000 in
set_option maxHeartbeats 2000000 in
theorem join_own (a : Option Addr) (R : List P1) (n cap : Nat) (hn : R.length = n) (hn2 : n ≤ 1048576) (ht : (flat R).length ≤ 1048576) (w : World) (hR : RdR w a R) :
    Calls Try.prog 74 #[.slice a n cap] w fun r w' => ∃ a' c', r = .returned (.slice a' (flat R).length c') ∧ Ls .u8 w' a' c' (flat R) ∧ w'.ownsRow w.heap.size 5 1 (.slice a' (flat R).length c') (flat R).length (iv .u8 (flat R)) ∧ Below w.heap.size w w' := by
  have HR := Lib.hid hR
  have HN := Lib.hid hn
  have HT := Lib.hid ht
  clear hR hn ht
  go_enter Try.func74, Try.ntmps74
  go_wp2_with fail
  go_loopw [3, 8] (fun v i wr => ∃ k : Nat, k ≤ n ∧ i = .int .i64 k ∧ wr.ownsRow w.heap.size 5 1 v (flat (R.take k)).length (iv .u8 (flat (R.take k))) ∧ Below w.heap.size w wr) (fun _ i _ => n - (intOf i).toNat)
  case atStart => exact ⟨0, by omega, rfl, World.ownsRow_nil _ _ _ _, Below.refl _ _⟩
  case round =>
    obtain ⟨k, hk, rfl, hown, B⟩ := hrel
    by_cases hlt : k < n
    · have hkl : (k : Int) < (n : Int) := by omega
      obtain ⟨p, hp⟩ : ∃ p, R[k]? = some p := ⟨_, List.getElem?_eq_getElem (by rw [HN.out]; exact hlt)⟩
      obtain ⟨b1, o1, e1, c1, l1⟩ := HR.out.below B k p hp
      subst e1
      have hF2 := flat_take_succ R k p hp
      have hle := Nat.le_trans (flat_take_le R (k + 1)) HT.out
      rw [hF2, List.length_append] at hle
      obtain ⟨pa, pc, pb⟩ := p
      simp only at l1 hF2 hle
      have c2 : wr.cell? ⟨b1, o1 + k, none⟩ = some (.slice pa pb.length pc) := c1
      obtain ⟨q, hq⟩ : ∃ q, pb.length = q := ⟨_, rfl⟩
      rw [hq] at c2 hle
      obtain ⟨F, hF⟩ : ∃ F, flat (R.take k) = F := ⟨_, rfl⟩
      rw [hF] at hown hF2 hle
      obtain ⟨m, hm⟩ : ∃ m, F.length = m := ⟨_, rfl⟩
      rw [hm] at hown hle
      have HF2 := Lib.hid hF2
      have HM := Lib.hid hm
      have HQ := Lib.hid hq
      have HLE := Lib.hid hle
      have HOWN := Lib.hid hown
      have hs1 := B.size
      clear c1 hp hF hF2 hm hq hle hown
      go_wp2_with (at_builtin; refine append_ls eltB rfl (.tmp 12) (.tmp 13) rfl w.heap.size _ m (iv .u8 F) rfl HOWN.out _ _ q pb HQ.out rfl l1 HLE.out hs1 ?_)
      intro v2 w2 hown2 hgrow2
      rw [← iv_append] at hown2
      have B2 := B.grown hgrow2 hs1 (fun j hj => (HOWN.out.lt j hj).1)
      have HOWN2 := Lib.hid hown2
      clear hown2 hgrow2
      go_wp2_with fail
      go_roundw
      case rel => exact ⟨k + 1, by omega, by go_num, by rw [HF2.out, List.length_append, HM.out, HQ.out]; exact HOWN2.out, B2⟩
      case measure => simp [intOf]; omega
    · have hkl : ¬ (k : Int) < (n : Int) := by omega
      have e : k = n := by omega
      subst e
      rw [List.take_of_length_le (by rw [HN.out]; exact Nat.le_refl _)] at hown
      obtain ⟨a', c', rfl, l', fr⟩ := own_ls hown rfl
      have FR := Lib.hid hown
      clear hown fr
      obtain ⟨m, hm⟩ : ∃ m, (flat R).length = m := ⟨_, rfl⟩
      rw [hm]
      have HM := Lib.hid hm
      clear hm
      go_wp2_with fail
      go_ret
      exact ⟨a', c', by rw [HM.out]; rfl, l', FR.out, B⟩
theorem join_law (a : Option Addr) (R : List P1) (n cap : Nat) (hn : R.length = n) (hn2 : n ≤ 1048576) (ht : (flat R).length ≤ 1048576) (w : World) (hR : RdR w a R) :
    Calls Try.prog 74 #[.slice a n cap] w fun r w' => ∃ a' c', r = .returned (.slice a' (flat R).length c') ∧ Ls .u8 w' a' c' (flat R) ∧ Below w.heap.size w w' :=
  (join_own a R n cap hn hn2 ht w hR).mono fun r w' ⟨a', c', h1, h2, _, h3⟩ => ⟨a', c', h1, h2, h3⟩

def entryL (f k : List Int) : List Int := frontL f ++ ([0, 1] ++ k)
set_option maxRecDepth 100000 in
set_option maxHeartbeats 2000000 in
theorem entry_bad (a b : Option Addr) (Lf : List Int) (n m ca cb : Nat) (hf : Lf.length = n) (hbad : 24 < n ∨ mayK m = false) (w : World) (hA : Ls .u8 w a ca Lf) :
    Calls Try.prog 30 #[.slice a n ca, .slice b m cb] w fun r w' => r = .returned (.tuple #[.slice none 0 0, .int .i64 2]) ∧ Below w.heap.size w w' := by
  have HA := Lib.hid hA
  have HF := Lib.hid hf
  clear hA hf
  by_cases hn : 24 < n
  · clear hbad
    go_enter Try.func30, Try.ntmps30
    go_wp2_with fail
    refine (front_bad a n ca hn _).mono ?_; rintro e w' ⟨rfl, B⟩
    go_wp2_with fail
    go_ret2
    exact ⟨rfl, B⟩
  · have hk : mayK m = false := hbad.resolve_left hn
    clear hbad
    have HK := Lib.hid hk
    clear hk
    go_enter Try.func30, Try.ntmps30
    go_wp2_with fail
    refine (front_ok a Lf n ca HF.out (by omega) _ HA.out).mono ?_; rintro e w' ⟨a', c', rfl, l', B⟩
    go_wp2_with fail
    refine (maykey_law _ _ _ _).mono ?_; rintro e w2 ⟨rfl, rfl⟩
    rw [HK.out]
    go_wp2_with fail
    go_ret2
    exact ⟨rfl, B⟩
set_option maxRecDepth 100000 in
set_option maxHeartbeats 2000000 in
theorem entry_ok (a b : Option Addr) (Lf Lk : List Int) (n m ca cb : Nat) (hf : Lf.length = n) (hkl : Lk.length = m) (hn : n ≤ 24) (hk : mayK m = true) (w : World) (hA : Ls .u8 w a ca Lf) (hB : Ls .u8 w b cb Lk) :
    Calls Try.prog 30 #[.slice a n ca, .slice b m cb] w fun r w' => ∃ a' c', r = .returned (.tuple #[.slice a' (entryL Lf Lk).length c', .int .i64 0]) ∧ Ls .u8 w' a' c' (entryL Lf Lk) ∧ Below w.heap.size w w' := by
  have HA := Lib.hid hA
  have HB := Lib.hid hB
  have HF := Lib.hid hf
  have HKL := Lib.hid hkl
  have HK := Lib.hid hk
  have hm32 : m ≤ 32 := by unfold mayK at hk; simp at hk; omega
  have hfl := frontL_len Lf
  have hE : entryL Lf Lk = frontL Lf ++ ([0, 1] ++ Lk) := rfl
  obtain ⟨F, hF⟩ : ∃ F, frontL Lf = F := ⟨_, rfl⟩
  rw [hF] at hfl hE
  obtain ⟨E, hEE⟩ : ∃ E, entryL Lf Lk = E := ⟨_, rfl⟩
  rw [hEE] at hE ⊢
  have HFF := Lib.hid hF
  have HE := Lib.hid hE
  obtain ⟨fl, hl⟩ : ∃ fl, F.length = fl := ⟨_, rfl⟩
  rw [hl] at hfl
  have HFLE := Lib.hid (show fl ≤ 48 by omega)
  have HL := Lib.hid hl
  clear hA hB hf hkl hk hF hE hEE hl hfl
  have h := front_ok a Lf n ca HF.out hn w HA.out
  rw [HFF.out, HL.out] at h
  go_enter Try.func30, Try.ntmps30
  go_wp2_with fail
  refine h.mono ?_; rintro e w' ⟨a', c', rfl, l', B⟩
  clear h
  go_wp2_with fail
  refine (maykey_law _ _ _ _).mono ?_; rintro e w2 ⟨rfl, rfl⟩
  rw [HK.out]
  go_wp2_with fail
  have hfl2 : flat [⟨a', c', F⟩, ⟨some ⟨w'.heap.size, 0, none⟩, 2, [0, 1]⟩, ⟨b, cb, Lk⟩] = E := by rw [HE.out]; simp [flat]
  have hlen : E.length = fl + (2 + m) := by rw [HE.out, List.length_append, List.length_append, HL.out, HKL.out]; rfl
  have BW := (Below.refl w'.heap.size w').alloc (Nat.le_refl _) (.cells #[.int .u8 0, .int .u8 1] 5)
  have hRR := rdR_new (w'.alloc (.cells #[.int .u8 0, .int .u8 1] 5)) [⟨a', c', F⟩, ⟨some ⟨w'.heap.size, 0, none⟩, 2, [0, 1]⟩, ⟨b, cb, Lk⟩] #[.slice a' fl c', .slice (some ⟨w'.heap.size, 0, none⟩) 2 2, .slice b m cb] 24 (0, 0) (by simp only [List.map_cons, List.map_nil, P1.v, HL.out, HKL.out]; rfl) (by
    intro p hp
    simp only [List.mem_cons, List.not_mem_nil, or_false] at hp
    rcases hp with rfl | rfl | rfl
    · exact l'.below BW
    · exact ls_new .u8 w' [0, 1] _ _ _ rfl 2 rfl
    · exact HB.out.below (B.trans (BW.mono B.size)))
  rw [World.size_alloc] at hRR
  have hj := join_law (some ⟨w'.heap.size + 1, 0, none⟩) [⟨a', c', F⟩, ⟨some ⟨w'.heap.size, 0, none⟩, 2, [0, 1]⟩, ⟨b, cb, Lk⟩] 3 3 rfl (by omega) (by rw [hfl2, hlen]; have := HFLE.out; omega) _ hRR
  rw [hfl2] at hj
  have HJ := Lib.hid hj
  clear hj hfl2 hlen
  refine HJ.out.mono ?_; rintro e w3 ⟨a3, c3, rfl, l3, B3⟩
  obtain ⟨el, hel⟩ : ∃ el, E.length = el := ⟨_, rfl⟩
  rw [hel]
  have HEL := Lib.hid hel
  clear hel
  have B4 := step_below B (step_below BW (step_below ((Below.refl _ _).alloc (Nat.le_refl _) _) B3))
  go_wp2_with fail
  go_ret2
  exact ⟨a3, c3, by rw [HEL.out]; rfl, l3, B4⟩
end Go.Proofs.Ytkgcbhpgkcfkhaa
