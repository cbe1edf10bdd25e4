/- 'known' of layer 7: the chapter's rows, run by contracts. -/
import Derived.Test.YtfdboihfgpibcaaDoorFns
import Derived.Test.YtfdboihfgpibcaaDoorShelf
import Derived.Lib.OthersKept
import Derived.Shelf.Strings.SlTrimAscii
namespace Go.Proofs.YtfdboihfgpibcaaDoor
open Go.ChangeShapes Go.WideShapes Go.ChangeAt Go.RowKit
open TM

theorem lawword (e n v : Int) (h0 : 0 ≤ e) (h1 : e ≤ 16777215) (k0 : 0 ≤ n) (k1 : n ≤ 2147483647) (hv : wordV e n = v) (w : World) :
    Calls Tryd.prog 29 #[.int .i64 e, .int .i64 n] w fun r w' => r = .returned (.int .u64 v) ∧ w = w' := by
  subst hv
  go_enter Tryd.func29, Tryd.ntmps29
  go_wp2_with (go_at_call 10; refine (word_ok _ _ h0 h1 k0 k1 _).mono ?_; rintro e w' ⟨rfl, rfl⟩)
  go_ret
  exact ⟨rfl, rfl⟩

theorem fmt3 (w : World) : Calls Tryd.prog 30 #[.int .i64 3, .int .i64 10] w fun e w' => e = .returned (.string ⟨#[51]⟩) ∧ w = w' :=
  (Tryd.strconv_FormatInt_10_small 3 (by decide) w).mono fun _ _ ⟨a, b⟩ => ⟨a.trans (by rw [show Lib.decDigits 3 = [51] from by simp [Lib.decDigits]]), b.symm⟩
theorem fmt4 (w : World) : Calls Tryd.prog 30 #[.int .i64 4, .int .i64 10] w fun e w' => e = .returned (.string ⟨#[52]⟩) ∧ w = w' :=
  (Tryd.strconv_FormatInt_10_small 4 (by decide) w).mono fun _ _ ⟨a, b⟩ => ⟨a.trans (by rw [show Lib.decDigits 4 = [52] from by simp [Lib.decDigits]]), b.symm⟩

def LDA : ByteArray := ⟨#[76, 68, 65]⟩

def text5s : Nat → ByteArray
  | 0 => ⟨#[51, 46, 52]⟩
  | 1 => ⟨#[51, 46, 52, 76]⟩
  | 2 => ⟨#[51, 46, 52, 76]⟩
  | _ => ⟨#[51, 46, 52, 76, 65]⟩
set_option maxHeartbeats 1000000 in
theorem text5 (w : World) : Calls Tryd.prog 25 #[.int .u64 51539607589] w fun e w' => e = .returned (.tuple #[.string ⟨#[51, 46, 52, 76, 65]⟩, .int .i64 0]) ∧ Below w.heap.size w w' := by
  have m1 : mayB 51539607589 = true := by decide
  have e1 : epV 51539607589 = 3 := by decide
  have n1 : nuV 51539607589 = 4 := by decide
  go_enter Tryd.func25, Tryd.ntmps25
  go_wp2_with fail
  refine (may_any _ (by decide) (by decide) _).mono ?_; rintro e w' ⟨rfl, rfl⟩
  go_wp2_with fail
  refine (epoch_any _ (by decide) (by decide) _).mono ?_; rintro e w' ⟨rfl, rfl⟩
  go_wp2_with fail
  refine (fmt3 _).mono ?_; rintro e w' ⟨rfl, rfl⟩
  go_wp2_with fail
  refine (number_any _ (by decide) (by decide) _).mono ?_; rintro e w' ⟨rfl, rfl⟩
  go_wp2_with fail
  refine (fmt4 _).mono ?_; rintro e w' ⟨rfl, rfl⟩
  go_wp2_with fail
  go_loopw [4] (fun v wr => ∃ k : Nat, k ≤ 3 ∧ v = .string (text5s k) ∧ wr = w.iter ⟨#[76, 68, 65]⟩ k) (fun _ wr => 3 - wr.iterPos w.heap.size)
  case atStart => exact ⟨0, by decide, rfl, rfl⟩
  case round =>
    obtain ⟨k, hk, rfl, rfl⟩ := hrel
    rcases (show k = 0 ∨ k = 1 ∨ k = 2 ∨ k = 3 from by omega) with rfl | rfl | rfl | rfl
    · have hn := fun ty => run_next_ascii (P := Tryd.prog) w ⟨#[76, 68, 65]⟩ 0 ty (by decide) (by decide)
      go_wp2
      go_roundw
      case rel => exact ⟨1, by decide, congrArg Value.string (by decide +kernel), rfl⟩
      case measure => simp [World.iterPos, World.iter_heap]
    · have hn := fun ty => run_next_ascii (P := Tryd.prog) w ⟨#[76, 68, 65]⟩ 1 ty (by decide) (by decide)
      go_wp2
      go_roundw
      case rel => exact ⟨2, by decide, rfl, rfl⟩
      case measure => simp [World.iterPos, World.iter_heap]
    · have hn := fun ty => run_next_ascii (P := Tryd.prog) w ⟨#[76, 68, 65]⟩ 2 ty (by decide) (by decide)
      go_wp2
      go_roundw
      case rel => exact ⟨3, by decide, congrArg Value.string (by decide +kernel), rfl⟩
      case measure => simp [World.iterPos, World.iter_heap]
    · have hn := fun ty => run_next_end (P := Tryd.prog) w ⟨#[76, 68, 65]⟩ 3 ty (by decide)
      go_wp2
      go_ret2
      exact ⟨rfl, (Below.refl _ _).alloc (Nat.le_refl _) _⟩

def text0s : Nat → ByteArray
  | 0 => ⟨#[51, 46, 52]⟩
  | 1 => ⟨#[51, 46, 52]⟩
  | 2 => ⟨#[51, 46, 52]⟩
  | _ => ⟨#[51, 46, 52]⟩
set_option maxHeartbeats 1000000 in
theorem text0 (w : World) : Calls Tryd.prog 25 #[.int .u64 51539607584] w fun e w' => e = .returned (.tuple #[.string ⟨#[51, 46, 52]⟩, .int .i64 0]) ∧ Below w.heap.size w w' := by
  have m1 : mayB 51539607584 = true := by decide
  have e1 : epV 51539607584 = 3 := by decide
  have n1 : nuV 51539607584 = 4 := by decide
  go_enter Tryd.func25, Tryd.ntmps25
  go_wp2_with fail
  refine (may_any _ (by decide) (by decide) _).mono ?_; rintro e w' ⟨rfl, rfl⟩
  go_wp2_with fail
  refine (epoch_any _ (by decide) (by decide) _).mono ?_; rintro e w' ⟨rfl, rfl⟩
  go_wp2_with fail
  refine (fmt3 _).mono ?_; rintro e w' ⟨rfl, rfl⟩
  go_wp2_with fail
  refine (number_any _ (by decide) (by decide) _).mono ?_; rintro e w' ⟨rfl, rfl⟩
  go_wp2_with fail
  refine (fmt4 _).mono ?_; rintro e w' ⟨rfl, rfl⟩
  go_wp2_with fail
  go_loopw [4] (fun v wr => ∃ k : Nat, k ≤ 3 ∧ v = .string (text0s k) ∧ wr = w.iter ⟨#[76, 68, 65]⟩ k) (fun _ wr => 3 - wr.iterPos w.heap.size)
  case atStart => exact ⟨0, by decide, rfl, rfl⟩
  case round =>
    obtain ⟨k, hk, rfl, rfl⟩ := hrel
    rcases (show k = 0 ∨ k = 1 ∨ k = 2 ∨ k = 3 from by omega) with rfl | rfl | rfl | rfl
    · have hn := fun ty => run_next_ascii (P := Tryd.prog) w ⟨#[76, 68, 65]⟩ 0 ty (by decide) (by decide)
      go_wp2
      go_roundw
      case rel => exact ⟨1, by decide, rfl, rfl⟩
      case measure => simp [World.iterPos, World.iter_heap]
    · have hn := fun ty => run_next_ascii (P := Tryd.prog) w ⟨#[76, 68, 65]⟩ 1 ty (by decide) (by decide)
      go_wp2
      go_roundw
      case rel => exact ⟨2, by decide, rfl, rfl⟩
      case measure => simp [World.iterPos, World.iter_heap]
    · have hn := fun ty => run_next_ascii (P := Tryd.prog) w ⟨#[76, 68, 65]⟩ 2 ty (by decide) (by decide)
      go_wp2
      go_roundw
      case rel => exact ⟨3, by decide, rfl, rfl⟩
      case measure => simp [World.iterPos, World.iter_heap]
    · have hn := fun ty => run_next_end (P := Tryd.prog) w ⟨#[76, 68, 65]⟩ 3 ty (by decide)
      go_wp2
      go_ret2
      exact ⟨rfl, (Below.refl _ _).alloc (Nat.le_refl _) _⟩

theorem below_of_bytes {w w' : World} (h : w' = w ∨ ∃ t, w' = Lib.bytesWorld w 5 t) : Below w.heap.size w w' := by
  rcases h with rfl | ⟨t, rfl⟩
  · exact Below.refl _ _
  · exact Lib.bytesWorld_below w 5 t
theorem hasrune (s : ByteArray) (r : Int) (b : Bool) (h0 : 0 ≤ r) (h1 : r < 128) (hb : decide (0 ≤ Lib.indexByte s.data.toList r.toNat.toUInt8) = b) (w : World) :
    Calls Tryd.prog 32 #[.string s, .int .i32 r] w fun e w' => e = .returned (.bool b) ∧ w = w' :=
  (Tryd.strings_ContainsRune_ascii s r w h0 h1).mono fun _ _ ⟨a, c⟩ => ⟨by rw [a, hb], c.symm⟩
theorem trimmed (s t : ByteArray) (hs : s.size ≤ 9223372036854775807) (ht : (Lib.trimRightS s.data.toList [76, 68, 65]).toArray = t.data) (w : World) :
    Calls Tryd.prog 34 #[.string s, .string ⟨#[76, 68, 65]⟩] w fun e w' => e = .returned (.string t) ∧ Below w.heap.size w w' :=
  (Any.strings_TrimRight_laid Tryd.lays162 (by kernel_rfl) s ⟨#[76, 68, 65]⟩ w hs (by decide) (ascii_of_all (by decide))).mono fun _ _ ⟨a, c⟩ => ⟨by rw [a]; exact congrArg (fun d => Ending.returned (Value.string ⟨d⟩)) ht, c⟩
theorem cut3 (w : World) (m : Int) (hm : w.cell? ⟨1, 0, none⟩ = some (.int .i64 m)) :
    Calls Tryd.prog 33 #[.string ⟨#[51, 46, 52]⟩, .string ⟨#[46]⟩] w fun e w' => e = .returned (.tuple #[.string ⟨#[51]⟩, .string ⟨#[52]⟩, .bool true]) ∧ Below w.heap.size w w' :=
  (Tryd.strings_Cut ⟨#[51, 46, 52]⟩ ⟨#[46]⟩ m w (by decide) hm).mono fun _ _ ⟨a, n, c⟩ => ⟨a.trans (by kernel_rfl), by rw [c]; exact below_drewN (Below.refl _ _) n⟩
theorem cut03 (w : World) (m : Int) (hm : w.cell? ⟨1, 0, none⟩ = some (.int .i64 m)) :
    Calls Tryd.prog 33 #[.string ⟨#[48, 51, 46, 52]⟩, .string ⟨#[46]⟩] w fun e w' => e = .returned (.tuple #[.string ⟨#[48, 51]⟩, .string ⟨#[52]⟩, .bool true]) ∧ Below w.heap.size w w' :=
  (Tryd.strings_Cut ⟨#[48, 51, 46, 52]⟩ ⟨#[46]⟩ m w (by decide) hm).mono fun _ _ ⟨a, n, c⟩ => ⟨a.trans (by kernel_rfl), by rw [c]; exact below_drewN (Below.refl _ _) n⟩
theorem parsed (s : ByteArray) (v : Int) (hs : s.size ≤ 9223372036854775806) (h : Lib.parseIntB 64 s.data.toList = .ok v) (w : World) :
    Calls Tryd.prog 35 #[.string s, .int .i64 10, .int .i64 64] w fun e w' => e = .returned (.tuple #[.int .i64 v, .nilIface]) ∧ Below w.heap.size w w' :=
  (Tryd.strconv_ParseInt_10_at64_ok s hs v h w).mono fun _ _ ⟨a, c⟩ => ⟨a, below_of_bytes c⟩

theorem parse1_has (s : ByteArray) (hs : s = ⟨#[51, 46, 52, 65, 76]⟩) (w : World) : (Calls Tryd.prog 32 #[.string s, .int .i32 76] w fun e w' => e = .returned (.bool true) ∧ w = w') ∧ (Calls Tryd.prog 32 #[.string s, .int .i32 68] w fun e w' => e = .returned (.bool false) ∧ w = w') ∧
    (Calls Tryd.prog 32 #[.string s, .int .i32 65] w fun e w' => e = .returned (.bool true) ∧ w = w') := by
  subst hs
  exact ⟨hasrune _ 76 _ (by decide) (by decide) (by decide +kernel) w, hasrune _ 68 _ (by decide) (by decide) (by decide +kernel) w, hasrune _ 65 _ (by decide) (by decide) (by decide +kernel) w⟩
set_option maxHeartbeats 1000000 in
theorem parse1 (w : World) (m : Int) (hm : w.cell? ⟨1, 0, none⟩ = some (.int .i64 m)) :
    Calls Tryd.prog 27 #[.string ⟨#[51, 46, 52, 65, 76]⟩] w fun e w' => e = .returned (.tuple #[.int .u64 0, .int .i64 4]) ∧ Below w.heap.size w w' := by
  have h1 : 1 < w.heap.size := block_lt_of_cell hm
  have HM := Lib.hid hm; clear hm
  go_enter Tryd.func27, Tryd.ntmps27
  go_wp2_with fail
  go_loopw [4] (fun v wr => ∃ k : Nat, k ≤ 3 ∧ v = .int .u64 (5 % 2 ^ k) ∧ wr = w.iter ⟨#[76, 68, 65]⟩ k) (fun _ wr => 3 - wr.iterPos w.heap.size)
  case atStart => exact ⟨0, by decide, rfl, rfl⟩
  case round =>
    obtain ⟨k, hk, rfl, rfl⟩ := hrel
    rcases (show k = 0 ∨ k = 1 ∨ k = 2 ∨ k = 3 from by omega) with rfl | rfl | rfl | rfl
    · have hn := fun ty => run_next_ascii (P := Tryd.prog) w ⟨#[76, 68, 65]⟩ 0 ty (by decide) (by decide)
      go_wp2_with fail
      refine (parse1_has _ rfl _).1.mono ?_; rintro e w' ⟨rfl, rfl⟩
      go_wp2_with fail
      go_roundw
      case rel => exact ⟨1, by decide, by first | rfl | exact congrArg (Value.int .u64) (by decide +kernel), rfl⟩
      case measure => simp [World.iterPos, World.iter_heap]
    · have hn := fun ty => run_next_ascii (P := Tryd.prog) w ⟨#[76, 68, 65]⟩ 1 ty (by decide) (by decide)
      go_wp2_with fail
      refine (parse1_has _ rfl _).2.1.mono ?_; rintro e w' ⟨rfl, rfl⟩
      go_wp2_with fail
      go_roundw
      case rel => exact ⟨2, by decide, by first | rfl | exact congrArg (Value.int .u64) (by decide +kernel), rfl⟩
      case measure => simp [World.iterPos, World.iter_heap]
    · have hn := fun ty => run_next_ascii (P := Tryd.prog) w ⟨#[76, 68, 65]⟩ 2 ty (by decide) (by decide)
      go_wp2_with fail
      refine (parse1_has _ rfl _).2.2.mono ?_; rintro e w' ⟨rfl, rfl⟩
      go_wp2_with fail
      go_roundw
      case rel => exact ⟨3, by decide, by first | rfl | exact congrArg (Value.int .u64) (by decide +kernel), rfl⟩
      case measure => simp [World.iterPos, World.iter_heap]
    · have hn := fun ty => run_next_end (P := Tryd.prog) w ⟨#[76, 68, 65]⟩ 3 ty (by decide)
      have b0 : Below w.heap.size w (w.iter ⟨#[76, 68, 65]⟩ 3) := (Below.refl _ _).alloc (Nat.le_refl _) _
      go_wp2_with fail
      refine (trimmed _ ⟨#[51, 46, 52]⟩ (by decide) (by decide +kernel) _).mono ?_; rintro e W1 ⟨rfl, B1⟩
      replace B1 := b0.trans (B1.mono b0.size)
      have hm1 := (B1.cell (p := ⟨1, 0, none⟩) h1).trans HM.out
      have HM1 := Lib.hid hm1; clear hm1
      go_wp2_with fail
      refine (cut3 _ m HM1.out).mono ?_; rintro e W2 ⟨rfl, B2⟩
      replace B2 := step_below B1 B2; clear B1
      go_wp2_with fail
      refine (parsed _ 3 (by decide) (by decide +kernel) _).mono ?_; rintro e W3 ⟨rfl, B3⟩
      replace B3 := step_below B2 B3; clear B2
      go_wp2_with fail
      refine (parsed _ 4 (by decide) (by decide +kernel) _).mono ?_; rintro e W4 ⟨rfl, B4⟩
      replace B4 := step_below B3 B4; clear B3
      go_wp2_with fail
      refine (word_ok _ _ (by decide) (by decide) (by decide) (by decide) _).mono ?_; rintro e w' ⟨rfl, rfl⟩
      have ew : bits BinOp.or IntKind.u64 (wordV 3 4) 5 = 51539607589 := by decide +kernel
      go_wp2_with fail
      refine (text5 _).mono ?_; rintro e W5 ⟨rfl, B5⟩
      replace B5 := step_below B4 B5; clear B4
      go_wp2_with fail
      go_ret2
      exact ⟨rfl, B5⟩

theorem parse2_has (s : ByteArray) (hs : s = ⟨#[48, 51, 46, 52]⟩) (w : World) : (Calls Tryd.prog 32 #[.string s, .int .i32 76] w fun e w' => e = .returned (.bool false) ∧ w = w') ∧ (Calls Tryd.prog 32 #[.string s, .int .i32 68] w fun e w' => e = .returned (.bool false) ∧ w = w') ∧
    (Calls Tryd.prog 32 #[.string s, .int .i32 65] w fun e w' => e = .returned (.bool false) ∧ w = w') := by
  subst hs
  exact ⟨hasrune _ 76 _ (by decide) (by decide) (by decide +kernel) w, hasrune _ 68 _ (by decide) (by decide) (by decide +kernel) w, hasrune _ 65 _ (by decide) (by decide) (by decide +kernel) w⟩
set_option maxHeartbeats 1000000 in
theorem parse2 (w : World) (m : Int) (hm : w.cell? ⟨1, 0, none⟩ = some (.int .i64 m)) :
    Calls Tryd.prog 27 #[.string ⟨#[48, 51, 46, 52]⟩] w fun e w' => e = .returned (.tuple #[.int .u64 0, .int .i64 4]) ∧ Below w.heap.size w w' := by
  have h1 : 1 < w.heap.size := block_lt_of_cell hm
  have HM := Lib.hid hm; clear hm
  go_enter Tryd.func27, Tryd.ntmps27
  go_wp2_with fail
  go_loopw [4] (fun v wr => ∃ k : Nat, k ≤ 3 ∧ v = .int .u64 (0 % 2 ^ k) ∧ wr = w.iter ⟨#[76, 68, 65]⟩ k) (fun _ wr => 3 - wr.iterPos w.heap.size)
  case atStart => exact ⟨0, by decide, rfl, rfl⟩
  case round =>
    obtain ⟨k, hk, rfl, rfl⟩ := hrel
    rcases (show k = 0 ∨ k = 1 ∨ k = 2 ∨ k = 3 from by omega) with rfl | rfl | rfl | rfl
    · have hn := fun ty => run_next_ascii (P := Tryd.prog) w ⟨#[76, 68, 65]⟩ 0 ty (by decide) (by decide)
      go_wp2_with fail
      refine (parse2_has _ rfl _).1.mono ?_; rintro e w' ⟨rfl, rfl⟩
      go_wp2_with fail
      go_roundw
      case rel => exact ⟨1, by decide, by first | rfl | exact congrArg (Value.int .u64) (by decide +kernel), rfl⟩
      case measure => simp [World.iterPos, World.iter_heap]
    · have hn := fun ty => run_next_ascii (P := Tryd.prog) w ⟨#[76, 68, 65]⟩ 1 ty (by decide) (by decide)
      go_wp2_with fail
      refine (parse2_has _ rfl _).2.1.mono ?_; rintro e w' ⟨rfl, rfl⟩
      go_wp2_with fail
      go_roundw
      case rel => exact ⟨2, by decide, by first | rfl | exact congrArg (Value.int .u64) (by decide +kernel), rfl⟩
      case measure => simp [World.iterPos, World.iter_heap]
    · have hn := fun ty => run_next_ascii (P := Tryd.prog) w ⟨#[76, 68, 65]⟩ 2 ty (by decide) (by decide)
      go_wp2_with fail
      refine (parse2_has _ rfl _).2.2.mono ?_; rintro e w' ⟨rfl, rfl⟩
      go_wp2_with fail
      go_roundw
      case rel => exact ⟨3, by decide, by first | rfl | exact congrArg (Value.int .u64) (by decide +kernel), rfl⟩
      case measure => simp [World.iterPos, World.iter_heap]
    · have hn := fun ty => run_next_end (P := Tryd.prog) w ⟨#[76, 68, 65]⟩ 3 ty (by decide)
      have b0 : Below w.heap.size w (w.iter ⟨#[76, 68, 65]⟩ 3) := (Below.refl _ _).alloc (Nat.le_refl _) _
      go_wp2_with fail
      refine (trimmed _ ⟨#[48, 51, 46, 52]⟩ (by decide) (by decide +kernel) _).mono ?_; rintro e W1 ⟨rfl, B1⟩
      replace B1 := b0.trans (B1.mono b0.size)
      have hm1 := (B1.cell (p := ⟨1, 0, none⟩) h1).trans HM.out
      have HM1 := Lib.hid hm1; clear hm1
      go_wp2_with fail
      refine (cut03 _ m HM1.out).mono ?_; rintro e W2 ⟨rfl, B2⟩
      replace B2 := step_below B1 B2; clear B1
      go_wp2_with fail
      refine (parsed _ 3 (by decide) (by decide +kernel) _).mono ?_; rintro e W3 ⟨rfl, B3⟩
      replace B3 := step_below B2 B3; clear B2
      go_wp2_with fail
      refine (parsed _ 4 (by decide) (by decide +kernel) _).mono ?_; rintro e W4 ⟨rfl, B4⟩
      replace B4 := step_below B3 B4; clear B3
      go_wp2_with fail
      refine (word_ok _ _ (by decide) (by decide) (by decide) (by decide) _).mono ?_; rintro e w' ⟨rfl, rfl⟩
      have ew : bits BinOp.or IntKind.u64 (wordV 3 4) 0 = 51539607584 := by decide +kernel
      go_wp2_with fail
      refine (text0 _).mono ?_; rintro e W5 ⟨rfl, B5⟩
      replace B5 := step_below B4 B5; clear B4
      go_wp2_with fail
      go_ret2
      exact ⟨rfl, B5⟩

theorem known_any (w : World) (m : Int) (hm : w.cell? ⟨1, 0, none⟩ = some (.int .i64 m)) :
    Calls Tryd.prog 11 #[] w fun e w' => e = .returned (.bool true) ∧ Below w.heap.size w w' := by
  have h1 : 1 < w.heap.size := block_lt_of_cell hm
  have HM := Lib.hid hm; clear hm
  have v1 : withV (17179869224) true false false = 17179869225 := by decide
  have v2 : withV (51539607584) true false true = 51539607589 := by decide
  have u1 : mayB 17179869225 = true := by decide
  have u2 : ¬ nuV 17179869225 = 2147483647 := by decide
  have v3 : bareV 17179869225 + 8 = 17179869232 := by decide
  have U := Lib.hid u2; clear u2
  go_enter Tryd.func11, Tryd.ntmps11
  go_wp2_with fail
  refine (lawword 1 5 17179869224 (by decide) (by decide) (by decide) (by decide) (by decide) _).mono ?_; rintro e w' ⟨rfl, rfl⟩
  go_wp2_with fail
  refine (with_any _ (by decide) (by decide) _ _ _ _).mono ?_; rintro e w' ⟨rfl, rfl⟩
  go_wp2_with fail
  refine (next_ok _ (by decide) (by decide) u1 U.out _).mono ?_; rintro e w' ⟨rfl, rfl⟩
  go_wp2_with fail
  refine (lawword 3 4 51539607584 (by decide) (by decide) (by decide) (by decide) (by decide) _).mono ?_; rintro e w' ⟨rfl, rfl⟩
  go_wp2_with fail
  refine (with_any _ (by decide) (by decide) _ _ _ _).mono ?_; rintro e w' ⟨rfl, rfl⟩
  go_wp2_with fail
  refine (text5 _).mono ?_; rintro e W1 ⟨rfl, B1⟩
  have HM1 := Lib.hid ((B1.cell (p := ⟨1, 0, none⟩) h1).trans HM.out)
  go_wp2_with fail
  refine (parse1 _ m HM1.out).mono ?_; rintro e W2 ⟨rfl, B2⟩
  replace B2 := step_below B1 B2; clear B1
  have HM2 := Lib.hid ((B2.cell (p := ⟨1, 0, none⟩) h1).trans HM.out)
  go_wp2_with fail
  refine (parse2 _ m HM2.out).mono ?_; rintro e W3 ⟨rfl, B3⟩
  replace B3 := step_below B2 B3; clear B2
  go_wp2_with fail
  refine (word_bad 16777216 0 (by decide) _).mono ?_; rintro e w' ⟨rfl, rfl⟩
  go_wp2_with fail
  refine (lawword 1 1 17179869192 (by decide) (by decide) (by decide) (by decide) (by decide) _).mono ?_; rintro e w' ⟨rfl, rfl⟩
  go_wp2_with fail
  refine (lawword 2 0 34359738368 (by decide) (by decide) (by decide) (by decide) (by decide) _).mono ?_; rintro e w' ⟨rfl, rfl⟩
  go_wp2_with fail
  refine (lawword 1 6 17179869232 (by decide) (by decide) (by decide) (by decide) (by decide) _).mono ?_; rintro e w' ⟨rfl, rfl⟩
  go_wp2_with fail
  go_ret
  exact ⟨rfl, B3⟩

end Go.Proofs.YtfdboihfgpibcaaDoor
