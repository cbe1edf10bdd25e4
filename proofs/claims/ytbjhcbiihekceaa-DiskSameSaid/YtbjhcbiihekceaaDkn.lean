/- Disks: ranges over the files; Used. -/
import Derived.Test.YtbjhcbiihekceaaDkm
namespace Go.Proofs.Ytbjhcbiihekceaa
open Go.ChangeShapes Go.WideShapes Go.ChangeAt Go.RowKit Go.Maps
set_option linter.unusedVariables false
set_option linter.unusedSimpArgs false
theorem key_inv {key : Value} {kl : Lit} (h : keyOf Try.prog 9 key = some kl) : ∃ s : ByteArray, key = .string s ∧ kl = .string s.data.toList ∧ s.size ≤ maxLen := by
  simp only [keyOf, Try.underlying9] at h
  cases key <;> simp [mapKey, Try.underlying9] at h
  exact ⟨_, rfl, h.2.symm, h.1⟩
theorem at_inv {L : List Fil} {s : ByteArray} {d : DataW Value} (h : ∀ zd, (dOf L).atKey (.string s.data.toList) zd = d) : ∃ f, look L s = some f ∧ d = .held f.v := by
  cases hl : look L s with
  | none =>
    have h1 := h .nil
    have h2 := h (.map [])
    rw [at_dOf, hl] at h1 h2
    simp only at h1 h2
    rw [← h1] at h2
    cases h2
  | some f =>
    have h1 := h .nil
    rw [at_dOf, hl] at h1
    exact ⟨f, rfl, h1.symm⟩
/-- A step of a range over a disk's files. -/
theorem next_disk {w : World} {ops : Array Oper} {rest : List Oper} {o : Oper} {a : Act} {Q : Exit → Act → World → Prop} (hg : o.guard = none) (it : Operand) (hop : o.op = Op.next it false) (b r n : Nat) (L : List Fil) (left : Lit → Bool) (cnt : Nat)
    (hit : a.eval it = .pointer (some ⟨r, 0, none⟩)) (h : w.ranges Try.prog 9 RF b r n (dOf L) left cnt)
    (hDone : cnt = 0 → (∀ kl, left kl = false) → wpList Try.prog ops Q rest (a.put o.dst (.tuple #[.bool false])) w)
    (hMore : ∀ (f : Fil) (w' : World) (cnt' : Nat), f ∈ L → left f.key = true → w'.ranges Try.prog 9 RF b r n (dOf L) (fun z => left z && !z.sameKey f.key) cnt' → cnt' < cnt → w.grownBy w' (some r) → w'.heap.size = w.heap.size →
      (Instr.entry (.pointer (some ⟨r, 0, none⟩))).run Try.prog w' = .ok (.tuple #[.string f.nm, f.v]) w' → wpList Try.prog ops Q rest (a.put o.dst (.tuple #[.bool true, .string f.nm, f.v])) w') :
    wpList Try.prog ops Q (o :: rest) a w :=
  wpList_next_ranges w hg it hop 9 law9 RF Value.string (fun v : Value => v) (fun key kl hk => by obtain ⟨s, rfl, _⟩ := key_inv hk; exact ⟨s, rfl⟩) (fun v y _ => ⟨v, rfl⟩) b r n (dOf L) left cnt hit h hDone
    (fun s c kl y w' cnt' hkey hlk hv hat hrg hlt hgr hsz hen => by
      obtain ⟨s', es, rfl, _⟩ := key_inv hkey
      cases es
      obtain ⟨f, hf, hd⟩ := at_inv hat
      obtain ⟨_, rfl⟩ := RF_inv hv
      obtain ⟨hm, rfl⟩ := look_mem hf
      obtain rfl : c = f.v := by simpa using hd
      exact hMore f w' cnt' hm hlk hrg hlt hgr hsz hen)
theorem Dk.apart {W : World} {p bm room : Nat} {L : List Fil} (h : Dk W p bm room L) : L.Pairwise fun f g => f.key ≠ g.key := by
  obtain ⟨es, e, hp⟩ := h.map.tidy law9
  have : es = L.map Fil.ent := by unfold dOf at e; cases e; rfl
  subst this
  rw [List.pairwise_map] at hp
  exact hp
/-- The bytes of those files that were gone over. -/
def leftSum (left : Lit → Bool) (L : List Fil) : Nat := (L.map fun f => if left f.key then 0 else f.bs.length).sum
theorem leftSum_cons (left : Lit → Bool) (g : Fil) (r : List Fil) : leftSum left (g :: r) = (if left g.key then 0 else g.bs.length) + leftSum left r := rfl
theorem leftSum_end {left : Lit → Bool} (h : ∀ kl, left kl = false) (L : List Fil) : leftSum left L = (L.map fun f => f.bs.length).sum := by simp [leftSum, h]
theorem leftSum_all {left : Lit → Bool} : ∀ {L : List Fil}, (∀ f ∈ L, left f.key = true) → leftSum left L = 0
  | [], _ => rfl
  | g :: r, h => by rw [leftSum_cons, h g (by simp), leftSum_all fun f hf => h f (by simp [hf])]; rfl
theorem leftSum_start (L : List Fil) : leftSum (Maps.has (dOf L)) L = 0 := leftSum_all fun f hf => by
  show Maps.has (dOf L) (.string f.nm.data.toList) = true
  rw [has_dOf, look, List.find?_isSome]
  exact ⟨f, hf, by simp⟩
theorem leftSum_same {left : Lit → Bool} {f : Fil} : ∀ {L : List Fil}, (∀ g ∈ L, g.key ≠ f.key) → leftSum (fun z => left z && !z.sameKey f.key) L = leftSum left L
  | [], _ => rfl
  | g :: r, h => by
    have h1 := leftSum_same (left := left) (f := f) (L := r) fun x hx => h x (by simp [hx])
    have h2 := Maps.sameKey_ne (h g (by simp))
    rw [leftSum_cons, leftSum_cons, h1]
    simp [h2]
theorem leftSum_step {left : Lit → Bool} {f : Fil} (hl : left f.key = true) : ∀ {L : List Fil}, L.Pairwise (fun f g => f.key ≠ g.key) → f ∈ L → leftSum (fun z => left z && !z.sameKey f.key) L = leftSum left L + f.bs.length
  | [], _, h => absurd h (by simp)
  | g :: r, hp, h => by
    obtain ⟨h1, h2⟩ := List.pairwise_cons.1 hp
    by_cases e : g = f
    · subst e
      have h3 := leftSum_same (left := left) (f := g) (L := r) fun x hx => (h1 x hx).symm
      have h4 : g.key.sameKey g.key = true := (key_same g g.nm).trans (by simp)
      rw [leftSum_cons, leftSum_cons, h3]
      simp [h4, hl]; omega
    · have hm : f ∈ r := by simpa [Ne.symm e] using h
      have h3 := leftSum_step hl h2 hm
      have h4 := Maps.sameKey_ne (h1 f hm)
      rw [leftSum_cons, leftSum_cons, h3]
      simp [h4]; omega
theorem leftSum_le (left : Lit → Bool) : ∀ L : List Fil, leftSum left L ≤ (L.map fun f => f.bs.length).sum
  | [] => Nat.le_refl _
  | g :: r => by
    have := leftSum_le left r
    rw [leftSum_cons, List.map_cons, List.sum_cons]
    split <;> omega
set_option maxHeartbeats 1000000 in
/-- Used (23). -/
theorem dused_law {w : World} {p bm room : Nat} {L : List Fil} (h : Dk w p bm room L) : Calls Try.prog 23 #[.pointer (some ⟨p, 0, none⟩)] w fun e w' => e = .returned (.int .i64 ((L.map fun f => f.bs.length).sum : Nat)) ∧ Below w.heap.size w w' := by
  have h1 := h.c1
  have HM := Lib.hid h.map
  have HH := Lib.hid h
  have HU := Lib.hid (show (L.map fun f => f.bs.length).sum ≤ 1048576 from Nat.le_trans h.ok.used h.hi)
  clear h
  go_enter Try.func23, Try.ntmps23
  go_wp2_with (first
    | (go_at_call 58; refine (dnone_law HH.out).mono ?_; rintro e w' ⟨rfl, rfl⟩)
    | (at_range; refine wpList_range_own _ rfl _ 92 rfl 9 118 law9 Try.underlying92 RF bm L.length (dOf L) rfl HM.out ?_; intro w0 hrg0 hg0 hs0))
  have HR := Lib.hid hrg0
  have HG := Lib.hid hg0
  have HS := Lib.hid hs0
  clear hrg0 hg0 hs0
  go_frame
  go_loopw [3] (fun n wr => ∃ (left : Lit → Bool) (cnt : Nat), wr.ranges Try.prog 9 RF bm w.heap.size L.length (dOf L) left cnt ∧ Below w.heap.size w wr ∧ n = .int .i64 (leftSum left L : Nat) ∧ w.heap.size < wr.heap.size)
    (fun _ wr => wr.rangeLeft bm w.heap.size)
  case atStart => exact ⟨_, _, HR.out, ⟨HG.out.os, HG.out.tape, HG.out.output, HG.out.size, fun k hk => HG.out.block k hk (by simp)⟩, by rw [leftSum_start]; rfl, by rw [HS.out]; omega⟩
  case round =>
    obtain ⟨left, cnt, hrg, hgw, rfl, hsz⟩ := hrel
    have hrgH := Lib.hid hrg
    have hgwH := Lib.hid hgw
    have HB1 := Lib.hid (Nat.le_trans (leftSum_le left L) HU.out)
    clear hgw
    go_wp2_with (first
      | (at_next; refine next_disk rfl _ rfl bm w.heap.size L.length L left cnt rfl hrg ?_ ?_)
      | go_in)
    · intro _ hl0
      clear hrg
      have hE := Lib.hid (leftSum_end hl0 L)
      go_wp2
      go_ret
      exact ⟨by rw [hE.out]; rfl, hgwH.out⟩
    · intro f w1 cnt1 hfm hlx hrg1 hlt hg1 hs1 hen
      have HB := Lib.hid (hgwH.out.grown hg1 (Nat.le_of_lt hsz) (fun j hj => by cases hj; exact Nat.le_refl _))
      have HS := Lib.hid (leftSum_step hlx HH.out.apart hfm)
      have hle : leftSum left L + f.bs.length ≤ 1048576 := by rw [← HS.out]; exact Nat.le_trans (leftSum_le _ L) HU.out
      have HR1 := Lib.hid hrg1
      have HSZ := Lib.hid hs1
      have hfv : f.v = .agg #[.slice f.ad f.bs.length f.cap, .int .i64 f.last] := rfl
      clear hrg hrg1 hg1 hs1
      rw [hfv] at hen ⊢
      clear hfv
      go_wp2
      go_roundw
      case rel => exact ⟨_, cnt1, HR1.out.alloc _, HB.out.alloc (by rw [HSZ.out]; omega) _, by rw [HS.out]; go_num, by simp [HSZ.out]; omega⟩
      case measure => rw [(HR1.out.alloc _).left_eq, hrgH.out.left_eq]; exact hlt
end Go.Proofs.Ytbjhcbiihekceaa
