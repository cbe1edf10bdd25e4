/- The document's own functions on texts of words, by contracts. -/
import Derived.Test.YtfdboihfgpibcaaDoorTxa
import Derived.Laws.BytesArg
import Derived.IntWalk
namespace Go.Proofs.YtfdboihfgpibcaaDoor
open Go.ChangeShapes Go.WideShapes Go.ChangeAt Go.RowKit
open TM
set_option linter.unusedVariables false
set_option linter.unusedSimpArgs false

def DgI (n q : Nat) (s : ByteArray) : Prop := ∃ L : List UInt8, s = ⟨L.toArray⟩ ∧ Lib.decDigits q ++ L = Lib.decDigits n
theorem DgI.le {n q : Nat} {s : ByteArray} (hn : n ≤ 2147483647) (h : DgI n q s) : s.size ≤ 10 ∧ q ≤ 2147483647 := by
  obtain ⟨L, rfl, e⟩ := h
  have h1 := TX.dec_len 9 n (by omega)
  have h2 := congrArg List.length e
  have h3 := congrArg (TX.valF 0) e
  rw [TX.valF_append, TX.val_dec, TX.val_dec] at h3
  have h4 := TX.valF_ge L q
  refine ⟨?_, by omega⟩
  show L.toArray.size ≤ 10
  simp at h2 ⊢
  omega
theorem DgI.step {n q : Nat} {s : ByteArray} (h : DgI n q s) (hq : ¬ q < 10) : DgI n (q / 10) (⟨#[UInt8.ofNat (48 + q % 10)]⟩ ++ s) := by
  obtain ⟨L, rfl, e⟩ := h
  refine ⟨UInt8.ofNat (48 + q % 10) :: L, ?_, ?_⟩
  · apply ByteArray.ext; simp [ByteArray.data_append]
  · rw [TX.dec_big hq] at e
    simpa using e
theorem DgI.fin {n q : Nat} {s : ByteArray} (h : DgI n q s) (hq : q < 10) : (⟨#[UInt8.ofNat (48 + q % 10)]⟩ ++ s : ByteArray) = ⟨(Lib.decDigits n).toArray⟩ := by
  obtain ⟨L, rfl, e⟩ := h
  rw [← e, TX.dec_small hq, Nat.mod_eq_of_lt hq]
  apply ByteArray.ext; simp [ByteArray.data_append]
theorem conv_one (w : World) (d : Int) (b : Nat) (hb : b = w.heap.size) : (convert 64 9 (.slice (some ⟨b, 0, none⟩) 1 1)).run Tryd.prog (w.alloc (.cells #[.int .u8 d] 5 (0, 0))) = .ok (.string (strOfNums [d])) (w.alloc (.cells #[.int .u8 d] 5 (0, 0))) := by
  subst hb
  refine run_convert_bytes_arg _ 64 5 Tryd.underlying64 Tryd.underlying5 w.heap.size 0 _ 1 [d] rfl (fun i hi => ?_) 9 Tryd.underlying9
  match i, hi with
  | 0, _ =>
    have h := heap_alloc_new w (.cells #[.int .u8 d] 5 (0, 0))
    simp only [World.cell?]
    rw [h]
    simp
set_option maxHeartbeats 1000000 in
theorem digits_any (n : Nat) (h : n ≤ 2147483647) (w : World) : Calls Tryd.prog 31 #[.int .i64 (n : Int)] w fun e w' => e = .returned (.string ⟨(Lib.decDigits n).toArray⟩) ∧ Below w.heap.size w w' := by
  have HN := Lib.hid h
  clear h
  go_enter Tryd.func31, Tryd.ntmps31
  go_wp2_with fail
  go_loopw [0, 3] (fun v s wr => ∃ (q : Nat) (t : ByteArray), v = .int .i64 (q : Int) ∧ s = .string t ∧ Hid (DgI n q t) ∧ Below w.heap.size w wr) (fun v _ _ => (intOf v).toNat)
  case atStart => exact ⟨n, ⟨#[]⟩, rfl, rfl, Lib.hid ⟨[], rfl, by simp⟩, Below.refl _ _⟩
  case round =>
    obtain ⟨q, t, rfl, rfl, hq, B⟩ := hrel
    obtain ⟨z1, z2⟩ := hq.out.le HN.out
    have hqi : (q : Int) ≤ 2147483647 := by omega
    obtain ⟨d, hd⟩ : ∃ d : Nat, 48 + q % 10 = d := ⟨_, rfl⟩
    have hd1 : 48 + (q : Int) % 10 = (d : Int) := by omega
    have hd2 : (d : Int) ≤ 57 := by omega
    have hd3 : IntKind.u8.wrap (d : Int) = (d : Int) := by rw [IntKind.wrap_u8]; omega
    have HD := Lib.hid hd
    have hcv := conv_one wr d
    obtain ⟨sd, hsd⟩ : ∃ s, strOfNums [(d : Int)] = s := ⟨_, rfl⟩
    rw [hsd] at hcv
    have HSD := Lib.hid hsd
    have hs2 : sd = ⟨#[UInt8.ofNat (48 + q % 10)]⟩ := by
      rw [← hsd, hd]
      apply ByteArray.ext
      simp only [strOfNums, List.map_cons, List.map_nil, Int.toNat_natCast]
    have HS2 := Lib.hid hs2
    have hss : ¬ 9223372036854775807 < sd.size + t.size := by
      rw [hs2]
      show ¬ 9223372036854775807 < 1 + t.size
      omega
    have HSS := Lib.hid hss
    obtain ⟨e, he⟩ : ∃ e : Nat, q / 10 = e := ⟨_, rfl⟩
    have he1 : (q : Int) / 10 = (e : Int) := by omega
    have HE := Lib.hid he
    have hlt : e = 0 ∨ 0 < e := by omega
    have HLT := Lib.hid (show e = 0 → q < 10 by omega)
    have HGE := Lib.hid (show 0 < e → ¬ q < 10 by omega)
    have HLE := Lib.hid (show e < q ∨ e = 0 by omega)
    clear hsd hd z1 z2 hs2 hss he
    rcases hlt with rfl | he0
    · go_wp2_with fail
      all_goals try exact absurd (by assumption) HSS.out
      go_ret
      have hf := hq.out.fin (HLT.out (by trivial))
      rw [← HS2.out] at hf
      exact ⟨by rw [hf]; rfl, B.alloc B.size _⟩
    · have he2 : ((e : Int) == 0) = false := by simp; omega
      have he3 : ¬ (e : Int) = 0 := by omega
      have HE0 := Lib.hid he0
      clear he0
      go_wp2_with fail
      all_goals try exact absurd (by assumption) HSS.out
      go_roundw
      case rel =>
        have hf := hq.out.step (HGE.out HE0.out)
        rw [← HS2.out, HE.out] at hf
        exact ⟨e, _, by go_num, rfl, Lib.hid hf, B.alloc B.size _⟩
      case measure =>
        have := HLE.out
        have := HE0.out
        simp [intOf]; omega
end Go.Proofs.YtfdboihfgpibcaaDoor
