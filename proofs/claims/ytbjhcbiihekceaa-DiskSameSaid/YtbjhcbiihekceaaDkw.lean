/- Disks: Append, whole; Names. -/
import Derived.Test.YtbjhcbiihekceaaDkv
namespace Go.Proofs.Ytbjhcbiihekceaa
open Go.ChangeShapes Go.WideShapes Go.ChangeAt Go.RowKit Go.Maps
set_option linter.unusedVariables false
set_option linter.unusedSimpArgs false
set_option maxHeartbeats 1000000 in
/-- Append (27), where there is room. -/
theorem dappend_law {w : World} {p bm room : Nat} {L : List Fil} (h : Dk w p bm room L) (s : ByteArray) (hm : mayB s = true) (ba : Option Addr) (bn bc : Nat) (B : List Int) (hBn : B.length = bn) (hB : Byt B) (hLs : Ls .u8 w ba bc B)
    (f : Fil) (ok : Bool) (hf : AtF L s f ok) (hu : (L.map fun f => f.bs.length).sum + bn ≤ room) (hfw : ok = false → L.length < 64) :
    Calls Try.prog 27 #[.pointer (some ⟨p, 0, none⟩), .string s, .slice ba bn bc] w fun e w' => e = .returned (.int .i64 0) ∧ ∃ ad' cap', Dk w' p bm room (putL (moreF f B ad' cap') L) ∧ Off (fun k => k = bm ∨ f.blk = some k) w w' ∧
      ((moreF f B ad' cap').blk = f.blk ∨ ∃ k, w.heap.size ≤ k ∧ (moreF f B ad' cap').blk = some k) := by
  obtain ⟨h0, h1, h2, h3, hb⟩ := boxes4 w #[.pointer (some ⟨p, 0, none⟩)] #[.string s] #[.slice ba bn bc] #[.string s] 23 9 34 9
  have hsz := hb.size
  have HC := Lib.hid (dask_law (h.below hb) [s] 1 (w.heap.size + 1 + 1 + 1) rfl (by omega) (Nms.one h3) (by simpa using may_size hm) (by simpa using hm) 68 (enters_of Try.func68 (by kernel_rfl) rfl) _ (fun _ => 0) (fun w' => ∃ ad' cap', Dk w' p bm room (putL (moreF f B ad' cap') L) ∧ Off (fun k => k = bm ∨ f.blk = some k) w w' ∧
      ((moreF f B ad' cap').blk = f.blk ∨ ∃ k, w.heap.size ≤ k ∧ (moreF f B ad' cap').blk = some k))
    ((dapp1_law (h.below hb) _ _ _ s hm ba bn bc B hBn hB (hLs.below hb) h0 h1 h2 f ok hf hu hfw).mono fun e w' hh => by
      obtain ⟨e1, ad', cap', e2, e3, e4⟩ := hh
      exact ⟨e1, ad', cap', e2, (Off.of (S := fun k => k = bm ∨ f.blk = some k) hb).trans e3, e4.imp (fun h => h) fun ⟨k, hk, he⟩ => ⟨k, Nat.le_trans hsz hk, he⟩⟩))
  clear h h0 h1 h2 h3 hb hf hLs hB hBn hu hfw hsz
  go_enter Try.func27, Try.ntmps27
  go_wp2_with fail
  refine HC.out.mono ?_
  rintro e w' ⟨rfl, hR⟩
  have HR := Lib.hid hR
  clear hR
  go_wp2
  go_ret
  exact ⟨rfl, HR.out⟩
set_option maxHeartbeats 1000000 in
/-- .. where there is none. -/
theorem dappend_full {w : World} {p bm room : Nat} {L : List Fil} (h : Dk w p bm room L) (s : ByteArray) (hm : mayB s = true) (ba : Option Addr) (bn bc : Nat) (hbn : bn ≤ 1099511627776)
    (f : Fil) (ok : Bool) (hf : AtF L s f ok) (hfull : room < (L.map fun f => f.bs.length).sum + bn ∨ ((L.map fun f => f.bs.length).sum + bn ≤ room ∧ ok = false ∧ L.length = 64)) :
    Calls Try.prog 27 #[.pointer (some ⟨p, 0, none⟩), .string s, .slice ba bn bc] w fun e w' => e = .returned (.int .i64 5) ∧ Below w.heap.size w w' := by
  obtain ⟨h0, h1, h2, h3, hb⟩ := boxes4 w #[.pointer (some ⟨p, 0, none⟩)] #[.string s] #[.slice ba bn bc] #[.string s] 23 9 34 9
  have HC := Lib.hid (dask_law (h.below hb) [s] 1 (w.heap.size + 1 + 1 + 1) rfl (by omega) (Nms.one h3) (by simpa using may_size hm) (by simpa using hm) 68 (enters_of Try.func68 (by kernel_rfl) rfl) _ (fun _ => 5) (fun w' => Below w.heap.size w w')
    ((dapp1_full (h.below hb) _ _ _ s (may_size hm) ba bn bc hbn h0 h1 h2 f ok hf hfull).mono fun e w' hh => ⟨hh.1, step_below hb hh.2⟩))
  clear h h0 h1 h2 h3 hb hf hfull
  go_enter Try.func27, Try.ntmps27
  go_wp2_with fail
  refine HC.out.mono ?_
  rintro e w' ⟨rfl, hR⟩
  have HR := Lib.hid hR
  clear hR
  go_wp2
  go_ret
  exact ⟨rfl, HR.out⟩
set_option maxHeartbeats 1000000 in
/-- .. no file may have that name. -/
theorem dappend_bad {w : World} {p bm room : Nat} {L : List Fil} (h : Dk w p bm room L) (s : ByteArray) (hs : s.size ≤ maxLen) (hm : mayB s = false) (ba : Option Addr) (bn bc : Nat) :
    Calls Try.prog 27 #[.pointer (some ⟨p, 0, none⟩), .string s, .slice ba bn bc] w fun e w' => e = .returned (.int .i64 2) ∧ Below w.heap.size w w' := by
  obtain ⟨h0, h1, h2, h3, hb⟩ := boxes4 w #[.pointer (some ⟨p, 0, none⟩)] #[.string s] #[.slice ba bn bc] #[.string s] 23 9 34 9
  have HB := Lib.hid hb
  have HC := Lib.hid (fun v => dask_no (h.below hb) [s] 1 (w.heap.size + 1 + 1 + 1) rfl (by omega) (Nms.one h3) (by simpa using hs) (by simpa using hm) v)
  clear h h0 h1 h2 h3 hb
  go_enter Try.func27, Try.ntmps27
  go_wp2_with fail
  refine (HC.out _).mono ?_
  rintro e w' ⟨rfl, rfl⟩
  go_wp2
  go_ret
  exact ⟨rfl, HB.out⟩
end Go.Proofs.Ytbjhcbiihekceaa
