/- The texts of words, by contracts: the program's and the document's. -/
import Derived.Test.YtfdboihfgpibcaaDoorLaws
import Derived.Test.YtfdboihfgpibcaaDoorTxm
import Derived.Lib.AppendIntMem
import Derived.Lib.Hide
import Derived.Deep.RegionHeld3
namespace Go.Proofs.YtfdboihfgpibcaaDoor
open Go.ChangeShapes Go.WideShapes Go.ChangeAt Go.RowKit
open TM
set_option linter.unusedVariables false
set_option linter.unusedSimpArgs false

/-- What the calls read of the package variables. -/
structure EnvAt (W : World) : Prop where
  tab : Lib.TabIs Tryd.prog W "internal/strconv.uint64pow10" .u64 Lib.pow10Tab
  mx : ∃ m, W.cell? ⟨1, 0, none⟩ = some (.int .i64 m)
  syn : ∃ tp p, W.cell? ⟨2, 0, none⟩ = some (.iface tp p)
  rng : ∃ tp p, W.cell? ⟨3, 0, none⟩ = some (.iface tp p)
theorem EnvAt.below {W W' : World} (h : EnvAt W) (b : Below W.heap.size W W') : EnvAt W' := by
  obtain ⟨h1, ⟨m, h2⟩, ⟨t1, p1, h3⟩, ⟨t2, p2, h4⟩⟩ := h
  exact ⟨Lib.tabBelow_of_tabIs h1 W' b, ⟨m, (b.cell (p := ⟨1, 0, none⟩) (block_lt_of_cell h2)).trans h2⟩, ⟨t1, p1, (b.cell (p := ⟨2, 0, none⟩) (block_lt_of_cell h3)).trans h3⟩, ⟨t2, p2, (b.cell (p := ⟨3, 0, none⟩) (block_lt_of_cell h4)).trans h4⟩⟩
theorem below_grow (w : World) (k : Nat) (os : Array Obj) : Below w.heap.size w (Sort.grow (w.drewN k) os) :=
  ⟨rfl, rfl, rfl, Lib.size_grow w k os, fun j hj => by simp [Sort.grow, World.drewN, Array.getElem?_append, hj]⟩
theorem fmt_any (n : Nat) (h : n ≤ 2147483647) (s : ByteArray) (hs : s = ⟨(Lib.decDigits n).toArray⟩) (w : World) (he : EnvAt w) : Calls Tryd.prog 30 #[.int .i64 (n : Int), .int .i64 10] w fun e w' => e = .returned (.string s) ∧ Below w.heap.size w w' :=
  (Tryd.strconv_FormatInt_10 n (by omega) (by omega) w he.tab).mono fun _ _ ⟨a, k, os, b⟩ => ⟨a.trans (by rw [hs]; simp only [Lib.itoa]; rw [if_neg (by omega)]; rfl), by rw [b]; exact below_grow w k os⟩

/-- A word's text. -/
def tx (x : Int) : List UInt8 := TX.textL (epV x).toNat (nuV x).toNat (bitB x 1) (bitB x 2) (bitB x 4)
def txk (x : Int) : Nat → ByteArray
  | 0 => ⟨(TX.bodyL (epV x).toNat (nuV x).toNat).toArray⟩
  | 1 => ⟨(TX.bodyL (epV x).toNat (nuV x).toNat ++ TX.sfx (bitB x 1) false false).toArray⟩
  | 2 => ⟨(TX.bodyL (epV x).toNat (nuV x).toNat ++ TX.sfx (bitB x 1) (bitB x 2) false).toArray⟩
  | _ => ⟨(tx x).toArray⟩
theorem dec_size (n : Nat) (h : n ≤ 2147483647) : (⟨(Lib.decDigits n).toArray⟩ : ByteArray).size ≤ 10 := by
  have := TX.dec_len 9 n (by omega)
  show (Lib.decDigits n).toArray.size ≤ 10
  simpa using this
theorem body_size (e n : Nat) (he : e ≤ 2147483647) (hn : n ≤ 2147483647) : (TX.bodyL e n).length ≤ 21 := by
  have h1 := TX.dec_len 9 e (by omega)
  have h2 := TX.dec_len 9 n (by omega)
  unfold TX.bodyL
  simp; omega
theorem epnu (x : Int) : ∃ e n : Nat, epV x = e ∧ e ≤ 16777215 ∧ nuV x = n ∧ n ≤ 2147483647 := ⟨(epV x).toNat, (nuV x).toNat, by unfold epV; omega, by unfold epV; omega, by unfold nuV; omega, by unfold nuV; omega⟩
theorem txk_size (x : Int) (k : Nat) : (txk x k).size ≤ 24 := by
  obtain ⟨e, n, hE, e1, hN, n1⟩ := epnu x
  have h1 := body_size e n (by omega) n1
  unfold txk tx TX.textL
  rw [hE, hN]
  simp only [Int.toNat_natCast]
  split <;> (show Array.size _ ≤ 24) <;> simp only [List.size_toArray, List.length_append] <;> (cases bitB x 1 <;> cases bitB x 2 <;> cases bitB x 4 <;> (try simp [TX.sfx]) <;> omega)
theorem txk_step (x : Int) : txk x 1 = (if bitB x 1 then txk x 0 ++ ⟨#[76]⟩ else txk x 0) ∧ txk x 2 = (if bitB x 2 then txk x 1 ++ ⟨#[68]⟩ else txk x 1) ∧ txk x 3 = (if bitB x 4 then txk x 2 ++ ⟨#[65]⟩ else txk x 2) := by
  unfold txk tx TX.textL
  refine ⟨?_, ?_, ?_⟩
  · cases bitB x 1 <;> (apply ByteArray.ext; simp [TX.sfx, ByteArray.data_append])
  · cases bitB x 1 <;> cases bitB x 2 <;> (apply ByteArray.ext; simp [TX.sfx, ByteArray.data_append])
  · cases bitB x 1 <;> cases bitB x 2 <;> cases bitB x 4 <;> (apply ByteArray.ext; simp [TX.sfx, ByteArray.data_append])
set_option maxRecDepth 100000 in
set_option maxHeartbeats 1000000 in
theorem text_any (x : Int) (h0 : 0 ≤ x) (h1 : x < 18446744073709551616) (hm : mayB x = true) (w : World) (he : EnvAt w) : Calls Tryd.prog 25 #[.int .u64 x] w fun e w' => e = .returned (.tuple #[.string ⟨(tx x).toArray⟩, .int .i64 0]) ∧ Below w.heap.size w w' := by
  obtain ⟨e, n, hE, e1, hN, n1⟩ := epnu x
  have HE := Lib.hid he; clear he
  obtain ⟨sE, hsE⟩ : ∃ s, s = (⟨(Lib.decDigits e).toArray⟩ : ByteArray) := ⟨_, rfl⟩
  obtain ⟨sN, hsN⟩ : ∃ s, s = (⟨(Lib.decDigits n).toArray⟩ : ByteArray) := ⟨_, rfl⟩
  have q1 := dec_size e (by omega)
  have q2 := dec_size n (by omega)
  rw [← hsE] at q1
  rw [← hsN] at q2
  have T0 : txk x 0 = sE ++ ⟨#[46]⟩ ++ sN := by
    rw [hsE, hsN]
    unfold txk
    rw [hE, hN]
    apply ByteArray.ext
    simp [TX.bodyL, ByteArray.data_append]
  obtain ⟨T1, T2, T3⟩ := txk_step x
  have z0 := txk_size x 0
  have z1 := txk_size x 1
  have z2 := txk_size x 2
  have TE : (⟨(tx x).toArray⟩ : ByteArray) = txk x 3 := rfl
  rw [TE]
  have HsE := Lib.hid hsE
  have HsN := Lib.hid hsN
  generalize txk x = T at *
  have HT0 := Lib.hid T0
  have HT1 := Lib.hid T1
  have HT2 := Lib.hid T2
  have HT3 := Lib.hid T3
  have M3 := Lib.hid z0
  have M4 := Lib.hid z1
  have M5 := Lib.hid z2
  have m1 : ¬ 9223372036854775807 < sE.size + 1 := by omega
  have m2 : ¬ 9223372036854775807 < sE.size + 1 + sN.size := by omega
  have HX := Lib.hid (And.intro h0 h1)
  clear hsE hsN T0 T1 T2 T3 q1 q2 z0 z1 z2 TE h0 h1
  go_enter Tryd.func25, Tryd.ntmps25
  go_wp2_with fail
  refine (may_any _ HX.out.1 HX.out.2 _).mono ?_; rintro e w' ⟨rfl, rfl⟩
  go_wp2_with fail
  refine (epoch_any _ HX.out.1 HX.out.2 _).mono ?_; rintro e w' ⟨rfl, rfl⟩
  go_wp2_with fail
  refine (fmt_any _ (by omega) _ HsE.out _ HE.out).mono ?_; rintro e W1 ⟨rfl, B1⟩
  have HE1 := Lib.hid (HE.out.below B1)
  go_wp2_with fail
  refine (number_any _ HX.out.1 HX.out.2 _).mono ?_; rintro e w' ⟨rfl, rfl⟩
  go_wp2_with fail
  refine (fmt_any n n1 _ HsN.out _ HE1.out).mono ?_; rintro e W2 ⟨rfl, B2⟩
  replace B2 := step_below B1 B2
  clear B1
  go_wp2_with fail
  clear m1 m2 e1 n1
  go_loopw [4] (fun v wr => ∃ k : Nat, k ≤ 3 ∧ v = .string (T k) ∧ wr = W2.iter ⟨#[76, 68, 65]⟩ k) (fun _ wr => 3 - wr.iterPos W2.heap.size)
  case atStart => exact ⟨0, by decide, by rw [HT0.out], rfl⟩
  case round =>
    obtain ⟨k, hk, rfl, rfl⟩ := hrel
    rcases (show k = 0 ∨ k = 1 ∨ k = 2 ∨ k = 3 from by omega) with rfl | rfl | rfl | rfl
    · have hn := fun ty => run_next_ascii (P := Tryd.prog) W2 ⟨#[76, 68, 65]⟩ 0 ty (by decide) (by decide)
      have hu1 : Utf8.encode ((⟨#[76, 68, 65]⟩ : ByteArray)[0].toNat : Int) = ⟨#[76]⟩ := by decide +kernel
      have HU := Lib.hid hu1
      have hz : ¬ 9223372036854775807 < (T 0).size + (Utf8.encode ((⟨#[76, 68, 65]⟩ : ByteArray)[0].toNat : Int)).size := by
        have := M3.out
        rw [hu1]
        show ¬ 9223372036854775807 < (T 0).size + 1
        omega
      clear hu1
      have HZ := Lib.hid hz
      clear hz
      have hbq : (bits .and .u64 (x) 1 == 1) = bitB x 1 := by
        have hx := HX.out
        rw [and1 _ (by omega) (by omega)]
        exact bit1 x
      obtain ⟨b, hb⟩ : ∃ b, bitB x 1 = b := ⟨_, rfl⟩
      rw [hb] at hbq
      have HBQ := Lib.hid hb
      clear hb
      cases b with
      | true =>
        go_wp2_with fail
        all_goals try exact absurd (by assumption) HZ.out
        go_roundw
        case rel => exact ⟨1, by decide, by rw [HT1.out, HBQ.out, HU.out]; rfl, rfl⟩
        case measure => simp [World.iterPos, World.iter_heap]
      | false =>
        go_wp2_with fail
        go_roundw
        case rel => exact ⟨1, by decide, by rw [HT1.out, HBQ.out]; rfl, rfl⟩
        case measure => simp [World.iterPos, World.iter_heap]
    · have hn := fun ty => run_next_ascii (P := Tryd.prog) W2 ⟨#[76, 68, 65]⟩ 1 ty (by decide) (by decide)
      have hu1 : Utf8.encode ((⟨#[76, 68, 65]⟩ : ByteArray)[1].toNat : Int) = ⟨#[68]⟩ := by decide +kernel
      have HU := Lib.hid hu1
      have hz : ¬ 9223372036854775807 < (T 1).size + (Utf8.encode ((⟨#[76, 68, 65]⟩ : ByteArray)[1].toNat : Int)).size := by
        have := M4.out
        rw [hu1]
        show ¬ 9223372036854775807 < (T 1).size + 1
        omega
      clear hu1
      have HZ := Lib.hid hz
      clear hz
      have hbq : (bits .and .u64 (x / 2) 1 == 1) = bitB x 2 := by
        have hx := HX.out
        rw [and1 _ (by omega) (by omega)]
        rfl
      obtain ⟨b, hb⟩ : ∃ b, bitB x 2 = b := ⟨_, rfl⟩
      rw [hb] at hbq
      have HBQ := Lib.hid hb
      clear hb
      cases b with
      | true =>
        go_wp2_with fail
        all_goals try exact absurd (by assumption) HZ.out
        go_roundw
        case rel => exact ⟨2, by decide, by rw [HT2.out, HBQ.out, HU.out]; rfl, rfl⟩
        case measure => simp [World.iterPos, World.iter_heap]
      | false =>
        go_wp2_with fail
        go_roundw
        case rel => exact ⟨2, by decide, by rw [HT2.out, HBQ.out]; rfl, rfl⟩
        case measure => simp [World.iterPos, World.iter_heap]
    · have hn := fun ty => run_next_ascii (P := Tryd.prog) W2 ⟨#[76, 68, 65]⟩ 2 ty (by decide) (by decide)
      have hu1 : Utf8.encode ((⟨#[76, 68, 65]⟩ : ByteArray)[2].toNat : Int) = ⟨#[65]⟩ := by decide +kernel
      have HU := Lib.hid hu1
      have hz : ¬ 9223372036854775807 < (T 2).size + (Utf8.encode ((⟨#[76, 68, 65]⟩ : ByteArray)[2].toNat : Int)).size := by
        have := M5.out
        rw [hu1]
        show ¬ 9223372036854775807 < (T 2).size + 1
        omega
      clear hu1
      have HZ := Lib.hid hz
      clear hz
      have hbq : (bits .and .u64 (x / 4) 1 == 1) = bitB x 4 := by
        have hx := HX.out
        rw [and1 _ (by omega) (by omega)]
        rfl
      obtain ⟨b, hb⟩ : ∃ b, bitB x 4 = b := ⟨_, rfl⟩
      rw [hb] at hbq
      have HBQ := Lib.hid hb
      clear hb
      cases b with
      | true =>
        go_wp2_with fail
        all_goals try exact absurd (by assumption) HZ.out
        go_roundw
        case rel => exact ⟨3, by decide, by rw [HT3.out, HBQ.out, HU.out]; rfl, rfl⟩
        case measure => simp [World.iterPos, World.iter_heap]
      | false =>
        go_wp2_with fail
        go_roundw
        case rel => exact ⟨3, by decide, by rw [HT3.out, HBQ.out]; rfl, rfl⟩
        case measure => simp [World.iterPos, World.iter_heap]
    · have hn := fun ty => run_next_end (P := Tryd.prog) W2 ⟨#[76, 68, 65]⟩ 3 ty (by decide)
      go_wp2_with fail
      go_ret2
      exact ⟨rfl, step_below B2 ((Below.refl _ _).alloc (Nat.le_refl _) _)⟩
theorem text_no (x : Int) (h0 : 0 ≤ x) (h1 : x < 18446744073709551616) (hm : mayB x = false) (w : World) : Calls Tryd.prog 25 #[.int .u64 x] w fun e w' => e = .returned (.tuple #[.string ⟨#[]⟩, .int .i64 2]) ∧ w = w' := by
  have HX := Lib.hid (And.intro h0 h1)
  clear h0 h1
  go_enter Tryd.func25, Tryd.ntmps25
  go_wp2_with fail
  refine (may_any _ HX.out.1 HX.out.2 _).mono ?_; rintro e w' ⟨rfl, rfl⟩
  go_wp2_with fail
  go_ret2
  exact ⟨rfl, rfl⟩
end Go.Proofs.YtfdboihfgpibcaaDoor
