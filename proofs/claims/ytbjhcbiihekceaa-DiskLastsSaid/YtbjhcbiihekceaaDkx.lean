/- Disks: Names. -/
import Derived.Test.YtbjhcbiihekceaaDkw
import Derived.Test.YtbjhcbiihekceaaShs
namespace Go.Proofs
open Go.RowKit Go.Maps Go.Sort Go.Shelf
/-- slices.Sort's two contracts at this dump, at the fence that asks nothing. -/
theorem Try.sorts62 (m : Nat) : AnyZ.SortsIn Try.prog Try.sorted62_ren Fence.wide m :=
  ⟨fun blk off cap ss W hH hblk hsz => callsIn_wide.2 (AnyM.slices_Sort_string Try.sort104 blk off cap ss W hH hblk hsz),
   fun p cap W => callsIn_wide.2 (AnyM.slices_Sort_string_none Try.sort104 p cap W)⟩

/-- **maps.Keys[map[string]garner/disk.file,string,garner/disk.file], at whatever map, the nil one too:** a function value over ONE NEW BLOCK, which holds the map. -/
theorem Try.maps_Keys_63 (mb : Option Nat) (W : World) : CallsIn Fence.wide 5 Try.prog 63 #[.map mb] W fun e w' => e = .returned (.func (.func 105) #[] #[.pointer (some ⟨W.heap.size, 0, none⟩)]) ∧ w' = W.alloc (.cells #[.map mb] 92) :=
  AnyZ.keys_in Try.keys63 Fence.wide 5 trivial rfl mb W

set_option maxHeartbeats 1000000 in
/-- **slices.Sorted[string] AT WHAT maps.Keys[map[string]garner/disk.file,string,garner/disk.file] HANDED BACK FOR A MAP THAT IS NOT nil** ('w': the world AHEAD of maps.Keys' call): A NEW SLICE THAT HOLDS THE MAP's KEYS, SORTED; nil just where it has none; nothing that lay before has turned. -/
theorem Try.slices_Sorted_keys_62_63 {H : Type} (b nn : Nat) (D0 : DataW H) (R : Value → Option (DataW H × List MemPlace)) (w : World) (hown : w.ownsMap Try.prog 9 R b nn D0) (hmax : Maps.size D0 ≤ maxLen) (hbytes : Maps.size D0 * 16 ≤ 140737488355328) :
    CallsIn Fence.wide 5 Try.prog 62 #[.func (.func 105) #[] #[.pointer (some ⟨w.heap.size, 0, none⟩)]] (w.alloc (.cells #[.map (some b)] 92)) fun e w' => ∃ (v : Value) (ss : List (List UInt8)), e = .returned v ∧ ss.Perm (strKeys D0) ∧
      w'.ownsRow (w.alloc (.cells #[.map (some b)] 92)).heap.size 9 1 v ss.length ((ss.mergeSort (fun x y => decide (x ≤ y))).map encStr) ∧ (v = .slice none 0 0 ↔ ss = []) ∧ Below (w.alloc (.cells #[.map (some b)] 92)).heap.size (w.alloc (.cells #[.map (some b)] 92)) w' := by
  have hbl := hown.lt
  have hseq : SeqGives Fence.wide 2 Try.prog 105 #[.pointer (some ⟨w.heap.size, 0, none⟩)] encStr (fun ss => ss.Perm (strKeys D0)) (Maps.size D0) (w.alloc (.cells #[.map (some b)] 92)) :=
    AnyZ.keys_gives (ρ := Try.keys63_ren) { Try.keys63 with } Fence.wide _ trivial rfl (by omega) w.heap.size b nn D0 _ (by simp) (by simp) (by
      obtain ⟨es, clock, hb, Ft, hs, hD⟩ := hown
      exact ⟨es, clock, (Below.heap_alloc _ _ b hbl).trans hb, Ft, hs, hD⟩)
  exact AnyZ.sorted_in Try.sorted62 Fence.wide 5 trivial trivial trivial trivial rfl (by omega) (Try.sorts62 _) (enters_of Try.func104 (by kernel_rfl) rfl) 105 #[.pointer (some ⟨w.heap.size, 0, none⟩)] trivial (enters_of Try.func105 (by kernel_rfl) rfl) _ _ hmax hbytes _ hseq

end Go.Proofs
namespace Go.Proofs.Ytbjhcbiihekceaa
open Go.ChangeShapes Go.WideShapes Go.ChangeAt Go.RowKit Go.Maps
set_option linter.unusedVariables false
set_option linter.unusedSimpArgs false
theorem bb_le : ∀ a b : List UInt8, bytesBefore a b = true → a ≤ b
  | [], b, _ => List.nil_le b
  | _ :: _, [], h => by simp [bytesBefore] at h
  | a :: r, b :: s, h => by
    rw [List.cons_le_cons_iff]
    simp only [bytesBefore, Bool.or_eq_true, Bool.and_eq_true, decide_eq_true_eq, beq_iff_eq] at h
    rcases h with h | ⟨h1, h2⟩
    · exact Or.inl h
    · exact Or.inr ⟨h1, bb_le r s h2⟩
theorem Dk.rise {W : World} {p bm room : Nat} {L : List Fil} (h : Dk W p bm room L) : L.Pairwise fun f g => f.key.before g.key = true := by
  have ha := h.apart
  obtain ⟨es, c, hb, F, hs, hD⟩ := h.map
  have e : L.map Fil.ent = (es.toList.map (Go.WideElems.rg Try.prog 9 RF)).foldr DataW.insert [] := by unfold dOf at hD; injection hD
  have hp := sorted_perm (es.toList.map (Go.WideElems.rg (H := Value) Try.prog 9 RF))
  rw [← e] at hp
  have hk : Go.ChangeMaps.StrKeys (es.toList.map (Go.WideElems.rg Try.prog 9 RF)) := fun q hq => by
    obtain ⟨f, hf, rfl⟩ := List.mem_map.1 (hp.mem_iff.2 hq)
    exact ⟨_, rfl⟩
  have hne : (es.toList.map (Go.WideElems.rg Try.prog 9 RF)).Pairwise (fun p q => p.1 ≠ q.1) := (hp.pairwise_iff (fun {_ _} h => Ne.symm h)).1 (List.pairwise_map.2 ha)
  have := Go.ChangeMaps.sorted_sorted _ hk hne
  rw [← e, List.pairwise_map] at this
  exact this
theorem keys_dOf (L : List Fil) : strKeys (dOf L) = L.map fun f => f.nm.data.toList := by
  unfold strKeys dOf
  simp only [List.map_map]
  rfl
theorem names_sorted {W : World} {p bm room : Nat} {L : List Fil} (h : Dk W p bm room L) {ss : List (List UInt8)} (hS : ss.Perm (strKeys (dOf L))) : ss.mergeSort (fun x y => decide (x ≤ y)) = L.map fun f => f.nm.data.toList := by
  have h1 := mergeSort_of_perm hS
  rw [keys_dOf] at h1
  refine h1.trans (List.mergeSort_of_pairwise ?_)
  rw [List.pairwise_map]
  exact h.rise.imp fun {f g} hb => decide_eq_true (bb_le _ _ hb)
set_option maxHeartbeats 2000000 in
/-- Names (22). -/
theorem dnames_law {w : World} {p bm room : Nat} {L : List Fil} (h : Dk w p bm room L) : Calls Try.prog 22 #[.pointer (some ⟨p, 0, none⟩)] w fun e w' => ∃ v, e = .returned v ∧ w'.ownsRow w.heap.size 9 1 v L.length (L.map fun f => .string f.nm) ∧ Below w.heap.size w w' := by
  have HH := Lib.hid h
  have h1 := h.c1
  have hfew := h.ok.few
  have HK := Lib.hid (callsIn_wide.1 (Try.maps_Keys_63 (some bm) w))
  have HS := Lib.hid (callsIn_wide.1 (Try.slices_Sorted_keys_62_63 bm L.length (dOf L) RF w h.map (by rw [size_dOf]; unfold maxLen; omega) (by rw [size_dOf]; omega)))
  clear h
  go_enter Try.func22, Try.ntmps22
  go_wp2_with (first
    | (go_at_call 58; refine (dnone_law HH.out).mono ?_; rintro e w' ⟨rfl, rfl⟩)
    | (go_at_call 63; refine HK.out.mono ?_; rintro e w' ⟨rfl, rfl⟩)
    | (go_at_call 62; refine HS.out.mono ?_; rintro e w' ⟨v, ss, rfl, hP, hrow, hnil, hb⟩; have HP := Lib.hid hP; have HR := Lib.hid hrow; have HB := Lib.hid hb; clear hP hrow hnil hb))
  go_ret
  refine ⟨_, rfl, ?_, step_below (bl1 _ _) HB.out⟩
  have hr := HR.out
  have hl := HP.out.length_eq
  rw [keys_dOf, List.length_map] at hl
  rw [names_sorted HH.out HP.out, hl, List.map_map] at hr
  exact own_base hr (by simp)
end Go.Proofs.Ytbjhcbiihekceaa
