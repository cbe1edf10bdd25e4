/- The reference's perms: read, and put together again, by contracts. -/
import Derived.Test.YtochdmdojcfceaaBack
import Derived.Deep.CutBlock
import Derived.Deep.MidRow
namespace Go.Proofs.Ytochdmdojcfceaa
open Go.ChangeShapes Go.WideShapes Go.ChangeAt Go.RowKit Go.Shelf
open PM
set_option linter.unusedVariables false
set_option linter.unusedSimpArgs false

theorem lt15 {j : Nat} (h : j < 15) : j = 0 ∨ j = 1 ∨ j = 2 ∨ j = 3 ∨ j = 4 ∨ j = 5 ∨ j = 6 ∨ j = 7 ∨ j = 8 ∨ j = 9 ∨ j = 10 ∨ j = 11 ∨ j = 12 ∨ j = 13 ∨ j = 14 := by omega
/-- A perm as a value: how many, the places. -/
def pvl (n : Nat) (l : List Nat) : List Value := .int .i64 (n : Int) :: (List.range 15).map fun j => .int .i64 ((l.getD j 0 : Nat) : Int)
theorem pvl_length (n : Nat) (l : List Nat) : (pvl n l).length = 16 := by simp [pvl]
theorem pvl_size (n : Nat) (l : List Nat) : (pvl n l).toArray.size = 16 := by simp [pvl]
theorem pvl_one (n : Nat) (l : List Nat) : ∀ v ∈ pvl n l, v.oneCell' = true := fun v hv => by
  rcases List.mem_cons.1 hv with rfl | hv
  · rfl
  · obtain ⟨j, _, rfl⟩ := List.mem_map.1 hv; rfl
theorem pvl_zero (n : Nat) (l : List Nat) : (pvl n l)[0]? = some (.int .i64 (n : Int)) := rfl
theorem pvl_at (n : Nat) (l : List Nat) (j : Nat) (hj : j < 15) : (pvl n l)[1 + j]? = some (.int .i64 ((l.getD j 0 : Nat) : Int)) := by
  rw [Nat.add_comm]; simp [pvl, hj]
theorem info27 : (Try.prog.info? 27).map (·.size) = some 16 := by kernel_rfl
theorem info27l (n : Nat) (l : List Nat) : (Try.prog.info? 27).map (·.size) = some (pvl n l).length := by rw [pvl_length]; exact info27
theorem info27a (n : Nat) (l : List Nat) : (Try.prog.info? 27).map (·.size) = some (pvl n l).toArray.size := by rw [pvl_size]; exact info27
structure PB (W : World) (B : Nat) (n : Nat) (m : List Nat) : Prop where
  c0 : W.cell? ⟨B, 0, none⟩ = some (.int .i64 (n : Int))
  cell : ∀ j < 15, W.cell? ⟨B, 1 + j, none⟩ = some (.int .i64 ((m.getD j 0 : Nat) : Int))
  free : ∀ j < 16, W.frozen? ⟨B, j, none⟩ = false
theorem PB.lt {W : World} {B n : Nat} {m : List Nat} (h : PB W B n m) : B < W.heap.size := World.block_lt_of_cell? W _ h.c0
theorem PB.below {W W' : World} {B n : Nat} {m : List Nat} (h : PB W B n m) (hb : Below W.heap.size W W') : PB W' B n m :=
  ⟨(hb.cell (p := ⟨B, 0, none⟩) h.lt).trans h.c0, fun j hj => (hb.cell (p := ⟨B, 1 + j, none⟩) h.lt).trans (h.cell j hj), fun j hj => (hb.frozen (p := ⟨B, j, none⟩) h.lt).trans (h.free j hj)⟩
theorem PB.set {W : World} {B n : Nat} {m m' : List Nat} (h : PB W B n m) (k x : Nat) (hk : k < 15) (hm : ∀ j < 15, m'.getD j 0 = if j = k then x else m.getD j 0) : PB (W.setCell ⟨B, 1 + k, none⟩ (.int .i64 (x : Int))) B n m' :=
  ⟨by rw [World.cell?_setCell_other W ⟨B, 1 + k, none⟩ ⟨B, 0, none⟩ _ (fun q => by simp at q <;> omega)]; exact h.c0,
   fun j hj => by
    by_cases e : j = k
    · subst e
      rw [World.cell?_setCell_same W ⟨B, 1 + j, none⟩ _ (h.cell j hj), hm j hj, if_pos rfl]
    · rw [World.cell?_setCell_other W ⟨B, 1 + k, none⟩ ⟨B, 1 + j, none⟩ _ (fun q => by simp at q <;> omega), h.cell j hj, hm j hj, if_neg e],
   fun j hj => by rw [World.frozen?_setCell]; exact h.free j hj⟩
theorem PB.other {W : World} {B n : Nat} {m : List Nat} (h : PB W B n m) (B' o : Nat) (v : Value) (hne : B' ≠ B) : PB (W.setCell ⟨B', o, none⟩ v) B n m :=
  ⟨by rw [World.cell?_setCell_other W ⟨B', o, none⟩ ⟨B, 0, none⟩ _ (fun q => by simp at q <;> omega)]; exact h.c0,
   fun j hj => by rw [World.cell?_setCell_other W ⟨B', o, none⟩ ⟨B, 1 + j, none⟩ _ (fun q => by simp at q <;> omega)]; exact h.cell j hj,
   fun j hj => by rw [World.frozen?_setCell]; exact h.free j hj⟩
theorem PB.range {W : World} {B n : Nat} {m : List Nat} (h : PB W B n m) : W.rangeAt B 0 (pvl n m) := fun j v hv => by
  have hj := (List.getElem?_eq_some_iff.1 hv).1
  rw [pvl_length] at hj
  rw [Nat.zero_add]
  rcases (show j = 0 ∨ ∃ k, j = 1 + k ∧ k < 15 from by
    rcases Nat.eq_zero_or_pos j with h | h
    · exact .inl h
    · exact .inr ⟨j - 1, by omega, by omega⟩) with rfl | ⟨k, rfl, hk⟩
  · rw [pvl_zero] at hv; cases hv; exact h.c0
  · rw [pvl_at n m k hk] at hv; cases hv; exact h.cell k hk
theorem PB.there {W : World} {B n : Nat} {m : List Nat} (h : PB W B n m) (a : Array Value) (ha : a.size = 16) : W.there B 0 a.size := fun j hj => by
  rw [ha] at hj
  rw [Nat.zero_add]
  refine ⟨?_, h.free j hj⟩
  rcases (show j = 0 ∨ ∃ k, j = 1 + k ∧ k < 15 from by
    rcases Nat.eq_zero_or_pos j with h | h
    · exact .inl h
    · exact .inr ⟨j - 1, by omega, by omega⟩) with rfl | ⟨k, rfl, hk⟩
  · rw [h.c0]; rfl
  · rw [h.cell k hk]; rfl
theorem below_setCells {w : World} {N : Nat} (b : Nat) (hb : N ≤ b) : ∀ (vs : List Value) (o : Nat) (W : World), Below N w W → Below N w (W.setCells b o vs)
  | [], _, _, h => h
  | v :: r, o, W, h => below_setCells b hb r (o + 1) _ (h.setCell hb v)
theorem PB.stored {W : World} {B n : Nat} {m : List Nat} (h : PB W B n m) (n' : Nat) (m' : List Nat) : PB (W.setCells B 0 (pvl n' m')) B n' m' := by
  have ht : W.there B 0 (pvl n' m').length := by have := h.there (pvl n' m').toArray (pvl_size _ _); simpa using this
  have hr := World.rangeAt_setCells_same W B 0 (pvl n' m') ht
  refine ⟨by simpa using hr 0 _ (pvl_zero _ _), fun j hj => by simpa using hr (1 + j) _ (pvl_at n' m' j hj), fun j hj => by rw [World.frozen?_setCells]; exact h.free j hj⟩
theorem PB.load {W : World} {B n : Nat} {m : List Nat} (h : PB W B n m) : (loadVar 27 ⟨B, 0, none⟩).run Try.prog W = .ok (.agg (pvl n m).toArray) W :=
  run_loadVar_mid (P := Try.prog) W B 0 27 (pvl n m) _ h.range Try.underlying27 rfl (info27l n m)
theorem pb_new (W : World) (n : Nat) : PB (W.alloc (.cells #[.int .i64 (n : Int), .int .i64 0, .int .i64 0, .int .i64 0, .int .i64 0, .int .i64 0, .int .i64 0, .int .i64 0, .int .i64 0, .int .i64 0, .int .i64 0, .int .i64 0, .int .i64 0, .int .i64 0, .int .i64 0, .int .i64 0] 27)) W.heap.size n [] :=
  ⟨by simp [go_sem], fun j hj => by rcases lt15 hj with rfl | rfl | rfl | rfl | rfl | rfl | rfl | rfl | rfl | rfl | rfl | rfl | rfl | rfl | rfl <;> simp [go_sem],
   fun j hj => by rcases (show j < 15 ∨ j = 15 by omega) with hj | rfl
                  · rcases lt15 hj with rfl | rfl | rfl | rfl | rfl | rfl | rfl | rfl | rfl | rfl | rfl | rfl | rfl | rfl | rfl <;> simp [go_sem]
                  · simp [go_sem]⟩
/-- A block of sixteen bools. -/
structure Sn (W : World) (B : Nat) (l : List Nat) : Prop where
  cell : ∀ j < 16, W.cell? ⟨B, j, none⟩ = some (.bool (decide (j ∈ l)))
  free : ∀ j < 16, W.frozen? ⟨B, j, none⟩ = false
theorem Sn.lt {W : World} {B : Nat} {l : List Nat} (h : Sn W B l) : B < W.heap.size := World.block_lt_of_cell? W _ (h.cell 0 (by omega))
theorem Sn.set {W : World} {B : Nat} {l : List Nat} (h : Sn W B l) (x : Nat) (hx : x < 16) (m : List Nat) (hm : ∀ j, j ∈ m ↔ j ∈ l ∨ j = x) : Sn (W.setCell ⟨B, x, none⟩ (.bool true)) B m :=
  ⟨fun j hj => by
    by_cases e : j = x
    · subst e
      rw [World.cell?_setCell_same W ⟨B, j, none⟩ (.bool true) (h.cell j hj)]
      simp [hm]
    · rw [World.cell?_setCell_other W ⟨B, x, none⟩ ⟨B, j, none⟩ (.bool true) (fun q => e (by cases q; rfl)), h.cell j hj]
      congr 2
      simp [hm, e],
   fun j hj => by rw [World.frozen?_setCell]; exact h.free j hj⟩
theorem Sn.other {W : World} {B : Nat} {l : List Nat} (h : Sn W B l) (B' o : Nat) (v : Value) (hne : B' ≠ B) : Sn (W.setCell ⟨B', o, none⟩ v) B l :=
  ⟨fun j hj => by rw [World.cell?_setCell_other W ⟨B', o, none⟩ ⟨B, j, none⟩ _ (fun q => by simp at q <;> omega)]; exact h.cell j hj,
   fun j hj => by rw [World.frozen?_setCell]; exact h.free j hj⟩
theorem sn_new (W : World) : Sn (W.alloc (.cells #[.bool false, .bool false, .bool false, .bool false, .bool false, .bool false, .bool false, .bool false, .bool false, .bool false, .bool false, .bool false, .bool false, .bool false, .bool false, .bool false] 64)) W.heap.size [] :=
  ⟨fun j hj => by rcases (show j < 15 ∨ j = 15 by omega) with hj | rfl
                  · rcases lt15 hj with rfl | rfl | rfl | rfl | rfl | rfl | rfl | rfl | rfl | rfl | rfl | rfl | rfl | rfl | rfl <;> simp [go_sem]
                  · simp [go_sem],
   fun j hj => by rcases (show j < 15 ∨ j = 15 by omega) with hj | rfl
                  · rcases lt15 hj with rfl | rfl | rfl | rfl | rfl | rfl | rfl | rfl | rfl | rfl | rfl | rfl | rfl | rfl | rfl <;> simp [go_sem]
                  · simp [go_sem]⟩

/-- What is left of a word behind some places. -/
theorem enc_drop_div {n : Nat} {l : List Nat} (h : Wrd n l) (k : Nat) (hk : k < 15) : enc ((n :: l).drop k) / 16 = enc (l.drop k) ∧ enc (l.drop k) % 16 = l.getD k 0 := by
  have hD : Dig (n :: l) := Dig.cons h.n16 h.dig
  have hlk : k < l.length := by rw [h.len]; exact hk
  constructor
  · rcases k with _ | k
    · exact h.shr
    · rw [List.drop_succ_cons, List.drop_eq_getElem_cons (show k < l.length by omega), enc]
      have := h.dig _ (List.getElem_mem (show k < l.length by omega))
      omega
  · rw [List.drop_eq_getElem_cons hlk, enc]
    have := h.dig _ (List.getElem_mem hlk)
    have e : l.getD k 0 = l[k] := by simp [List.getD, List.getElem?_eq_getElem hlk]
    omega

theorem results_two {tmps : Array Value} {W : World} {B : Nat} {cs : Array Value} {b : Bool} (hp : tmps.getD 2 undef = .pointer (some ⟨B, 0, none⟩)) (hb : tmps.getD 3 undef = .bool b) (hl : (loadVar 27 ⟨B, 0, none⟩).run Try.prog W = .ok (.agg cs) W) :
    (results Try.f9 tmps).run Try.prog W = .ok (.tuple #[.agg cs, .bool b]) W := by
  have hp' : tmps[2]?.getD undef = .pointer (some ⟨B, 0, none⟩) := by simpa using hp
  have hb' : tmps[3]?.getD undef = .bool b := by simpa using hb
  simp [results, Try.results9, hp', hb', asAddr, hl]
theorem pvl_open (n : Nat) (l : List Nat) (a0 a1 a2 a3 a4 a5 a6 a7 a8 a9 a10 a11 a12 a13 a14 : Nat) (h0 : l.getD 0 0 = a0) (h1 : l.getD 1 0 = a1) (h2 : l.getD 2 0 = a2) (h3 : l.getD 3 0 = a3) (h4 : l.getD 4 0 = a4) (h5 : l.getD 5 0 = a5) (h6 : l.getD 6 0 = a6) (h7 : l.getD 7 0 = a7) (h8 : l.getD 8 0 = a8) (h9 : l.getD 9 0 = a9) (h10 : l.getD 10 0 = a10) (h11 : l.getD 11 0 = a11) (h12 : l.getD 12 0 = a12) (h13 : l.getD 13 0 = a13) (h14 : l.getD 14 0 = a14) : pvl n l = [.int .i64 (n : Int), .int .i64 (a0 : Int), .int .i64 (a1 : Int), .int .i64 (a2 : Int), .int .i64 (a3 : Int), .int .i64 (a4 : Int), .int .i64 (a5 : Int), .int .i64 (a6 : Int), .int .i64 (a7 : Int), .int .i64 (a8 : Int), .int .i64 (a9 : Int), .int .i64 (a10 : Int), .int .i64 (a11 : Int), .int .i64 (a12 : Int), .int .i64 (a13 : Int), .int .i64 (a14 : Int)] := by
  subst h0 h1 h2 h3 h4 h5 h6 h7 h8 h9 h10 h11 h12 h13 h14; rfl
def rdV (n : Nat) (l : List Nat) : List Value := if okB l = true then pvl n l else pvl 0 []
set_option maxRecDepth 100000 in
set_option maxHeartbeats 4000000 in
theorem read_law (n : Nat) (l : List Nat) (h : Wrd n l) (w : World) :
    Calls Try.prog 9 #[.int .u64 ((enc (n :: l) : Nat) : Int)] w fun e w' => e = .returned (.tuple #[.agg (rdV n l).toArray, .bool (okB l)]) ∧ Below w.heap.size w w' := by
  have hp := h.lt
  have hlow := h.low
  have hlen := h.len
  have HW := Lib.hid h
  have hmodc : (((enc (n :: l) : Nat) : Int) % 16) = (n : Int) := by omega
  have HMOD := Lib.hid hmodc
  clear h hlow hmodc
  go_enter Try.func9, Try.ntmps9
  go_wp2_with fail
  rw [HMOD.out]
  have R0 := ((pb_new w 0).below ((Below.refl _ _).alloc (Nat.le_refl _) (.cells #[.int .i64 (n : Int), .int .i64 0, .int .i64 0, .int .i64 0, .int .i64 0, .int .i64 0, .int .i64 0, .int .i64 0, .int .i64 0, .int .i64 0, .int .i64 0, .int .i64 0, .int .i64 0, .int .i64 0, .int .i64 0, .int .i64 0] 27)))
  have P0 := pb_new (w.alloc (.cells #[.int .i64 0, .int .i64 0, .int .i64 0, .int .i64 0, .int .i64 0, .int .i64 0, .int .i64 0, .int .i64 0, .int .i64 0, .int .i64 0, .int .i64 0, .int .i64 0, .int .i64 0, .int .i64 0, .int .i64 0, .int .i64 0] 27)) n
  have S0 := sn_new ((w.alloc (.cells #[.int .i64 0, .int .i64 0, .int .i64 0, .int .i64 0, .int .i64 0, .int .i64 0, .int .i64 0, .int .i64 0, .int .i64 0, .int .i64 0, .int .i64 0, .int .i64 0, .int .i64 0, .int .i64 0, .int .i64 0, .int .i64 0] 27)).alloc (.cells #[.int .i64 (n : Int), .int .i64 0, .int .i64 0, .int .i64 0, .int .i64 0, .int .i64 0, .int .i64 0, .int .i64 0, .int .i64 0, .int .i64 0, .int .i64 0, .int .i64 0, .int .i64 0, .int .i64 0, .int .i64 0, .int .i64 0] 27))
  replace R0 := R0.below ((Below.refl _ _).alloc (Nat.le_refl _) (.cells #[.bool false, .bool false, .bool false, .bool false, .bool false, .bool false, .bool false, .bool false, .bool false, .bool false, .bool false, .bool false, .bool false, .bool false, .bool false, .bool false] 64))
  replace P0 := P0.below ((Below.refl _ _).alloc (Nat.le_refl _) (.cells #[.bool false, .bool false, .bool false, .bool false, .bool false, .bool false, .bool false, .bool false, .bool false, .bool false, .bool false, .bool false, .bool false, .bool false, .bool false, .bool false] 64))
  have B0 : Below w.heap.size w (((w.alloc (.cells #[.int .i64 0, .int .i64 0, .int .i64 0, .int .i64 0, .int .i64 0, .int .i64 0, .int .i64 0, .int .i64 0, .int .i64 0, .int .i64 0, .int .i64 0, .int .i64 0, .int .i64 0, .int .i64 0, .int .i64 0, .int .i64 0] 27)).alloc (.cells #[.int .i64 (n : Int), .int .i64 0, .int .i64 0, .int .i64 0, .int .i64 0, .int .i64 0, .int .i64 0, .int .i64 0, .int .i64 0, .int .i64 0, .int .i64 0, .int .i64 0, .int .i64 0, .int .i64 0, .int .i64 0, .int .i64 0] 27)).alloc (.cells #[.bool false, .bool false, .bool false, .bool false, .bool false, .bool false, .bool false, .bool false, .bool false, .bool false, .bool false, .bool false, .bool false, .bool false, .bool false, .bool false] 64)) := (((Below.refl _ _).alloc (Nat.le_refl _) _).alloc (by simp) _).alloc (by simp; omega) _
  simp only [World.size_alloc] at P0 S0
  simp only [Int.ofNat_zero, Int.natCast_zero] at R0
  obtain ⟨W0, hW0⟩ : ∃ W0, ((w.alloc (.cells #[.int .i64 0, .int .i64 0, .int .i64 0, .int .i64 0, .int .i64 0, .int .i64 0, .int .i64 0, .int .i64 0, .int .i64 0, .int .i64 0, .int .i64 0, .int .i64 0, .int .i64 0, .int .i64 0, .int .i64 0, .int .i64 0] 27)).alloc (.cells #[.int .i64 (n : Int), .int .i64 0, .int .i64 0, .int .i64 0, .int .i64 0, .int .i64 0, .int .i64 0, .int .i64 0, .int .i64 0, .int .i64 0, .int .i64 0, .int .i64 0, .int .i64 0, .int .i64 0, .int .i64 0, .int .i64 0] 27)).alloc (.cells #[.bool false, .bool false, .bool false, .bool false, .bool false, .bool false, .bool false, .bool false, .bool false, .bool false, .bool false, .bool false, .bool false, .bool false, .bool false, .bool false] 64) = W0 := ⟨_, rfl⟩
  rw [hW0] at R0 P0 S0 B0 ⊢
  clear hW0
  go_loopw [0, 6] (fun p i wr => ∃ k : Nat, k ≤ 15 ∧ i = .int .i64 k ∧ p = .int .u64 ((enc ((n :: l).drop k) : Nat) : Int) ∧ (∀ i < k, l.getD i 0 < 15 ∧ l.getD i 0 ∉ l.take i) ∧ PB wr w.heap.size 0 [] ∧ PB wr (w.heap.size + 1) n (l.take k) ∧ Sn wr (w.heap.size + 1 + 1) (l.take k) ∧ Below w.heap.size w wr) (fun _ i _ => 15 - (intOf i).toNat)
  case atStart => exact ⟨0, by omega, rfl, rfl, fun i hi => absurd hi (by omega), R0, P0, S0, B0⟩
  case round =>
    clear R0 P0 S0 B0
    obtain ⟨k, hk, rfl, rfl, hpre, hR, hP, hS, B⟩ := hrel
    have HP := Lib.hid hpre
    clear hpre
    by_cases hlt : k < 15
    · have hkl : (k : Int) < 15 := by omega
      obtain ⟨hd1, hd2⟩ := enc_drop_div HW.out k hlt
      have h16 := HW.out.get16 k hlt
      have hE := enc_lt ((n :: l).drop k) ((Dig.cons HW.out.n16 HW.out.dig).drop k)
      have hlt64 : enc ((n :: l).drop k) < 18446744073709551616 := by
        have h2 : 16 ^ ((n :: l).drop k).length ≤ 16 ^ 16 := Nat.pow_le_pow_right (by omega) (by simp [hlen])
        omega
      have hN := Lib.hid (show (n :: l).drop (k + 1) = l.drop k from rfl)
      have htake := take_mem l k (by omega)
      have hget : ∀ j < 15, (l.take (k + 1)).getD j 0 = if j = k then l.getD k 0 else (l.take k).getD j 0 := fun j hj => by
        simp only [List.getD, List.getElem?_take]
        by_cases h1 : j = k
        · subst h1; simp
        · rw [if_neg h1]
          by_cases h2 : j < k
          · rw [if_pos (by omega), if_pos h2]
          · rw [if_neg (by omega), if_neg h2]
      obtain ⟨x, hx⟩ : ∃ x, l.getD k 0 = x := ⟨_, rfl⟩
      rw [hx] at hd2 h16 hget htake
      have HX := Lib.hid hx
      have hP2 := hP.set k x hlt hget
      have hR2 := hR.other (w.heap.size + 1) (1 + k) (.int .i64 (x : Int)) (by omega)
      have hS2 := hS.other (w.heap.size + 1) (1 + k) (.int .i64 (x : Int)) (by omega)
      obtain ⟨p, hp0⟩ : ∃ p, ((enc ((n :: l).drop k) : Nat) : Int) = p := ⟨_, rfl⟩
      obtain ⟨p', hp1⟩ : ∃ p', ((enc (l.drop k) : Nat) : Int) = p' := ⟨_, rfl⟩
      have hdiv : p / 16 = p' := by omega
      have hmod : p' % 16 = (x : Int) := by omega
      have hpl : 0 ≤ p := by omega
      have hpu : p < 18446744073709551616 := by omega
      have hpl' : 0 ≤ p' := by omega
      rw [hp0]
      have HP1 := Lib.hid hp1
      have HG := Lib.hid ((hget k hlt).trans (if_pos rfl))
      have cc := hP.cell k hlt
      have ff := hP.free (1 + k) (by omega)
      have bP := hP.lt
      have bS := hS.lt
      have bR := hR.lt
      clear hd1 hd2 hE hlt64 hx hp0 hp1 hget
      by_cases q : x = 15
      · have t1 : ((x : Int) == 15) = true := by rw [q]; rfl
        have c1 := hP2.cell k hlt
        have HN := Lib.hid (show okB l = false by
          cases hb : okB l
          · rfl
          · have := ((okB_iff l).1 hb k hlt).1; rw [HX.out] at this; omega)
        have RS := hR2.stored 0 []
        have hth := hR2.there (pvl 0 []).toArray (pvl_size _ _)
        have hone := all_oneCell_toArray (pvl_one 0 [])
        have hinf := info27a 0 []
        subst q
        go_wp2_with (refine wpList_store_mid rfl 27 (.tmp 2) (.tmp 36) rfl w.heap.size 0 (pvl 0 []).toArray rfl rfl hth hinf hone ?_)
        have hld := RS.load
        refine bodyPost_ret (v := .tuple #[.agg (pvl 0 []).toArray, .bool false]) (results_two rfl rfl hld) rfl ⟨by rw [rdV, HN.out]; rfl, ?_⟩
        exact below_setCells _ (Nat.le_refl _) _ _ _ (B.setCell (by simp) _)
      · have t1 : ((x : Int) == 15) = false := by simp; omega
        have t2 : ¬ ((x : Int) = 15) := by omega
        have c1 := hP2.cell k hlt
        rw [HG.out] at c1
        have s1 := hS2.cell x h16
        have g1 := hS2.free x h16
        have hxl : (x : Int) < 16 := by omega
        by_cases hm : x ∈ l.take k
        · rw [decide_eq_true hm] at s1
          have HN := Lib.hid (show okB l = false by
            cases hb : okB l
            · rfl
            · have := ((okB_iff l).1 hb k hlt).2; rw [HX.out] at this; exact absurd hm this)
          have RS := hR2.stored 0 []
          have hth := hR2.there (pvl 0 []).toArray (pvl_size _ _)
          have hone := all_oneCell_toArray (pvl_one 0 [])
          have hinf := info27a 0 []
          go_wp2_with (refine wpList_store_mid rfl 27 (.tmp 2) (.tmp 36) rfl w.heap.size 0 (pvl 0 []).toArray rfl rfl hth hinf hone ?_)
          have hld := RS.load
          refine bodyPost_ret (v := .tuple #[.agg (pvl 0 []).toArray, .bool false]) (results_two rfl rfl hld) rfl ⟨by rw [rdV, HN.out]; rfl, ?_⟩
          exact below_setCells _ (Nat.le_refl _) _ _ _ (B.setCell (by simp) _)
        · rw [decide_eq_false hm] at s1
          have hS3 := hS2.set x h16 (l.take (k + 1)) htake
          have hP3 := hP2.other (w.heap.size + 1 + 1) x (.bool true) (by omega)
          have hR3 := hR2.other (w.heap.size + 1 + 1) x (.bool true) (by omega)
          have B3 := ((B.setCell (p := ⟨w.heap.size + 1, 1 + k, none⟩) (by simp) (.int .i64 (x : Int))).setCell (p := ⟨w.heap.size + 1 + 1, x, none⟩) (by simp; omega) (.bool true))
          have H1 := Lib.hid (show l.getD k 0 < 15 ∧ l.getD k 0 ∉ l.take k by rw [HX.out]; exact ⟨by omega, hm⟩)
          have hpe := Lib.hid (show (Value.int .u64 p') = .int .u64 ((enc ((n :: l).drop (k + 1)) : Nat) : Int) by rw [hN.out, HP1.out])
          go_wp2_with fail
          go_roundw
          case rel => exact ⟨k + 1, by omega, by go_num, by rw [hdiv]; exact hpe.out, jstep HP.out H1.out, hR3, hP3, hS3, B3⟩
          case measure => simp [intOf]; omega
    · have e15 : k = 15 := by omega
      subst e15
      have e2 : l.take 15 = l := by rw [List.take_of_length_le (by omega)]
      rw [e2] at hP
      have HOK := Lib.hid ((okB_iff l).2 HP.out)
      have RS := hR.stored n l
      have hth := hR.there (pvl n l).toArray (pvl_size _ _)
      have hone := all_oneCell_toArray (pvl_one n l)
      have hinf := info27a n l
      obtain ⟨a0, h0⟩ : ∃ a, l.getD 0 0 = a := ⟨_, rfl⟩
      obtain ⟨a1, h1⟩ : ∃ a, l.getD 1 0 = a := ⟨_, rfl⟩
      obtain ⟨a2, h2⟩ : ∃ a, l.getD 2 0 = a := ⟨_, rfl⟩
      obtain ⟨a3, h3⟩ : ∃ a, l.getD 3 0 = a := ⟨_, rfl⟩
      obtain ⟨a4, h4⟩ : ∃ a, l.getD 4 0 = a := ⟨_, rfl⟩
      obtain ⟨a5, h5⟩ : ∃ a, l.getD 5 0 = a := ⟨_, rfl⟩
      obtain ⟨a6, h6⟩ : ∃ a, l.getD 6 0 = a := ⟨_, rfl⟩
      obtain ⟨a7, h7⟩ : ∃ a, l.getD 7 0 = a := ⟨_, rfl⟩
      obtain ⟨a8, h8⟩ : ∃ a, l.getD 8 0 = a := ⟨_, rfl⟩
      obtain ⟨a9, h9⟩ : ∃ a, l.getD 9 0 = a := ⟨_, rfl⟩
      obtain ⟨a10, h10⟩ : ∃ a, l.getD 10 0 = a := ⟨_, rfl⟩
      obtain ⟨a11, h11⟩ : ∃ a, l.getD 11 0 = a := ⟨_, rfl⟩
      obtain ⟨a12, h12⟩ : ∃ a, l.getD 12 0 = a := ⟨_, rfl⟩
      obtain ⟨a13, h13⟩ : ∃ a, l.getD 13 0 = a := ⟨_, rfl⟩
      obtain ⟨a14, h14⟩ : ∃ a, l.getD 14 0 = a := ⟨_, rfl⟩
      have hop := pvl_open n l a0 a1 a2 a3 a4 a5 a6 a7 a8 a9 a10 a11 a12 a13 a14 h0 h1 h2 h3 h4 h5 h6 h7 h8 h9 h10 h11 h12 h13 h14
      have d0 : wr.cell? ⟨w.heap.size + 1, 0, none⟩ = some (.int .i64 (n : Int)) := hP.c0
      have d1 : wr.cell? ⟨w.heap.size + 1, 1, none⟩ = some (.int .i64 (a0 : Int)) := by rw [← h0]; exact hP.cell 0 (by omega)
      have d2 : wr.cell? ⟨w.heap.size + 1, 2, none⟩ = some (.int .i64 (a1 : Int)) := by rw [← h1]; exact hP.cell 1 (by omega)
      have d3 : wr.cell? ⟨w.heap.size + 1, 3, none⟩ = some (.int .i64 (a2 : Int)) := by rw [← h2]; exact hP.cell 2 (by omega)
      have d4 : wr.cell? ⟨w.heap.size + 1, 4, none⟩ = some (.int .i64 (a3 : Int)) := by rw [← h3]; exact hP.cell 3 (by omega)
      have d5 : wr.cell? ⟨w.heap.size + 1, 5, none⟩ = some (.int .i64 (a4 : Int)) := by rw [← h4]; exact hP.cell 4 (by omega)
      have d6 : wr.cell? ⟨w.heap.size + 1, 6, none⟩ = some (.int .i64 (a5 : Int)) := by rw [← h5]; exact hP.cell 5 (by omega)
      have d7 : wr.cell? ⟨w.heap.size + 1, 7, none⟩ = some (.int .i64 (a6 : Int)) := by rw [← h6]; exact hP.cell 6 (by omega)
      have d8 : wr.cell? ⟨w.heap.size + 1, 8, none⟩ = some (.int .i64 (a7 : Int)) := by rw [← h7]; exact hP.cell 7 (by omega)
      have d9 : wr.cell? ⟨w.heap.size + 1, 9, none⟩ = some (.int .i64 (a8 : Int)) := by rw [← h8]; exact hP.cell 8 (by omega)
      have d10 : wr.cell? ⟨w.heap.size + 1, 10, none⟩ = some (.int .i64 (a9 : Int)) := by rw [← h9]; exact hP.cell 9 (by omega)
      have d11 : wr.cell? ⟨w.heap.size + 1, 11, none⟩ = some (.int .i64 (a10 : Int)) := by rw [← h10]; exact hP.cell 10 (by omega)
      have d12 : wr.cell? ⟨w.heap.size + 1, 12, none⟩ = some (.int .i64 (a11 : Int)) := by rw [← h11]; exact hP.cell 11 (by omega)
      have d13 : wr.cell? ⟨w.heap.size + 1, 13, none⟩ = some (.int .i64 (a12 : Int)) := by rw [← h12]; exact hP.cell 12 (by omega)
      have d14 : wr.cell? ⟨w.heap.size + 1, 14, none⟩ = some (.int .i64 (a13 : Int)) := by rw [← h13]; exact hP.cell 13 (by omega)
      have d15 : wr.cell? ⟨w.heap.size + 1, 15, none⟩ = some (.int .i64 (a14 : Int)) := by rw [← h14]; exact hP.cell 14 (by omega)
      clear h0 h1 h2 h3 h4 h5 h6 h7 h8 h9 h10 h11 h12 h13 h14
      have HOP := Lib.hid hop
      rw [hop] at RS hth hone hinf
      clear hop
      go_wp2_with (refine wpList_store_mid rfl 27 (.tmp 2) (.tmp 42) rfl w.heap.size 0 [.int .i64 (n : Int), .int .i64 (a0 : Int), .int .i64 (a1 : Int), .int .i64 (a2 : Int), .int .i64 (a3 : Int), .int .i64 (a4 : Int), .int .i64 (a5 : Int), .int .i64 (a6 : Int), .int .i64 (a7 : Int), .int .i64 (a8 : Int), .int .i64 (a9 : Int), .int .i64 (a10 : Int), .int .i64 (a11 : Int), .int .i64 (a12 : Int), .int .i64 (a13 : Int), .int .i64 (a14 : Int)].toArray rfl rfl hth hinf hone ?_)
      have hld := RS.load
      refine bodyPost_ret (v := .tuple #[.agg (pvl n l).toArray, .bool true]) (results_two rfl rfl hld) rfl ⟨by rw [rdV, HOK.out]; rfl, ?_⟩
      exact below_setCells _ (Nat.le_refl _) _ _ _ B
end Go.Proofs.Ytochdmdojcfceaa
