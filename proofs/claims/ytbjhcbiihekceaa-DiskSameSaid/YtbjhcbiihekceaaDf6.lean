/- Disks of the document: what out and put make of the files; Remove, Sync. -/
import Derived.Test.YtbjhcbiihekceaaDf5
import Derived.BigQuiet
namespace Go.Proofs.Ytbjhcbiihekceaa
open Go.ChangeShapes Go.WideShapes Go.ChangeAt Go.RowKit Go.Maps
set_option linter.unusedVariables false
set_option linter.unusedSimpArgs false
theorem bl_eq (a b : ByteArray) : Op.bytesLess a.toList b.toList = bytesBefore a.data.toList b.data.toList := by
  rw [ByteArray.toList_eq, ByteArray.toList_eq]
  have e : ∀ x y : List UInt8, Op.bytesLess x y = bytesBefore x y := fun x => by
    induction x with
    | nil => intro y; cases y <;> rfl
    | cons a r ih => intro y; cases y with
      | nil => rfl
      | cons b s => show (a < b || (a == b && Op.bytesLess r s)) = (a < b || (a == b && bytesBefore r s)); rw [ih]
  exact e _ _
theorem bb_total {a b : ByteArray} (ha : a.size ≤ maxLen) (hb : b.size ≤ maxLen) (hne : a ≠ b) : bytesBefore a.data.toList b.data.toList = true ∨ bytesBefore b.data.toList a.data.toList = true :=
  law9.total (key_of a ha) (key_of b hb) fun e => hne (skey_inj e)
theorem bb_asymm {a b : List UInt8} (h : bytesBefore a b = true) : bytesBefore b a = false := by
  cases e : bytesBefore b a with
  | false => rfl
  | true => exact absurd (bytes_trans _ _ _ h e) (by rw [Go.WideAt.bytes_irrefl]; simp)
/-- What put makes of the files. -/
theorem put_at : ∀ {L : List Fil} {x : Fil} {k : Nat}, PutAt L x k → x.nm.size ≤ maxLen → (∀ f ∈ L, f.nm.size ≤ maxLen ∧ f.nm ≠ x.nm) → (L.take k ++ [x] ++ L.drop k).map core = cIns (core x) (L.map core)
  | [], x, k, h, _, _ => by simp [cIns]
  | g :: r, x, 0, h, hx, hn => by
    have h3 := h.2.2 g rfl
    rw [bl_eq] at h3
    have hg := hn g (by simp)
    rcases bb_total hg.1 hx hg.2 with e | e
    · rw [e] at h3; cases h3
    · have : (skey (core x).1).before (skey (core g).1) = true := e
      show core x :: core g :: r.map core = if (skey (core x).1).before (skey (core g).1) then _ else _
      rw [if_pos this]
  | g :: r, x, k + 1, h, hx, hn => by
    have h2 := h.2.1 0 (by omega) g rfl
    rw [bl_eq] at h2
    have e : (skey (core x).1).before (skey (core g).1) = false := bb_asymm h2
    have ih := put_at (L := r) (x := x) (k := k) ⟨by have := h.1; simp at this; omega, fun j hj f hf => h.2.1 (j + 1) (by omega) f (by simpa using hf), fun f hf => h.2.2 f (by simpa using hf)⟩ hx fun f hf => hn f (by simp [hf])
    show core g :: (r.take k ++ [x] ++ r.drop k).map core = if (skey (core x).1).before (skey (core g).1) then _ else core g :: cIns (core x) (r.map core)
    rw [if_neg (by rw [e]; simp), ih]
/-- What out makes of the files. -/
theorem out_at : ∀ {L : List Fil} {i : Nat} {f : Fil}, (L.map core).Pairwise (fun c d => c.1 ≠ d.1) → L[i]? = some f → (L.take i ++ L.drop (i + 1)).map core = cDel f.nm (L.map core)
  | [], i, f, _, h => by simp at h
  | g :: r, 0, f, hp, h => by
    simp at h
    subst h
    rw [List.map_cons, List.pairwise_cons] at hp
    have : cDel g.nm (core g :: r.map core) = r.map core := by
      unfold cDel
      rw [List.filter_cons, if_neg (by simp [core])]
      exact List.filter_eq_self.2 fun c hc => by
        have := hp.1 c hc
        simp; intro e; exact this e.symm
    rw [List.map_cons, this]; rfl
  | g :: r, i + 1, f, hp, h => by
    have h' : r[i]? = some f := by simpa using h
    rw [List.map_cons, List.pairwise_cons] at hp
    have ih := out_at hp.2 h'
    have hne : (core g).1 ≠ f.nm := hp.1 (core f) (List.mem_map.2 ⟨f, List.mem_of_getElem? h', rfl⟩)
    show core g :: (r.take i ++ r.drop (i + 1)).map core = cDel f.nm (core g :: r.map core)
    rw [ih]
    unfold cDel
    rw [List.filter_cons, if_pos (by simp [hne])]
theorem len_fine {room : Nat} {L : List Fil} (hf : Fine room (L.map core)) : L.length ≤ 64 := by have := hf.few; rwa [List.length_map] at this
theorem ask_one {L : List Fil} {s : ByteArray} {r E : Int} (h : AskR L s r E) : (oneE (L.map core) s : Int) = E := by
  have hnone : (∀ f ∈ L, f.nm ≠ s) → cFind (L.map core) s = none := fun h => cFind_none.2 fun c hc => by
    obtain ⟨f, hf, rfl⟩ := List.mem_map.1 hc
    exact h f hf
  rcases h with ⟨h1, _, rfl⟩ | ⟨h1, h2, _, rfl⟩ | ⟨h1, i, f, h2, h3, _, rfl⟩
  · unfold oneE; rw [if_pos h1]; rfl
  · unfold oneE; rw [if_neg (by rw [h1]; simp), if_pos (by rw [hnone h2]; rfl)]; rfl
  · unfold oneE
    rw [if_neg (by rw [h1]; simp), if_neg]
    · rfl
    · intro e
      have hn : cFind (L.map core) s = none := by simpa using e
      exact cFind_none.1 hn (core f) (List.mem_map.2 ⟨f, List.mem_of_getElem? h2, rfl⟩) h3
theorem old_at {L : List Fil} {s : ByteArray} {i : Nat} {f : Fil} (hp : (L.map core).Pairwise (fun c d => c.1 ≠ d.1)) (h : L[i]? = some f) (hn : f.nm = s) : cFind (L.map core) s = some (core f) ∧ cOld (L.map core) s = core f := by
  have hm : core f ∈ L.map core := List.mem_map.2 ⟨f, List.mem_of_getElem? h, rfl⟩
  have hx : cFind (L.map core) s = some (core f) := by
    cases hf : cFind (L.map core) s with
    | none => exact absurd hn (cFind_none.1 hf (core f) hm)
    | some d =>
      obtain ⟨h1, h2⟩ := cFind_some hf
      have : d = core f := by
        apply Classical.byContradiction
        intro hne
        exact pair_of (fun h => Ne.symm h) hp h1 hm hne (h2.trans hn.symm)
      rw [this]
  exact ⟨hx, by unfold cOld; rw [hx]; rfl⟩
theorem RDk.rd {W : World} {q room : Nat} {L : List Fil} {a : Option Addr} {cap : Nat} (h : RDk W q room L a cap) {O : Nat → Prop} (hO : ∀ k, ROwn q a L k → O k) : RDC W q room (L.map core) O := ⟨L, a, cap, h, rfl, hO⟩
/-- Behind out. -/
theorem out_own {q : Nat} {a a' : Option Addr} {L M : List Fil} {B : Nat} {O : Nat → Prop} (hO : ∀ k, ROwn q a L k → O k) (hM : ∀ f ∈ M, f ∈ L) (hg : ∀ g, a' = some g → B ≤ g.block) : ∀ k, ROwn q a' M k → O k ∨ B ≤ k := fun k hk => by
  rcases hk with rfl | ⟨g, e, rfl⟩ | ⟨f, hf, b, e, rfl⟩
  · exact Or.inl (hO _ (Or.inl rfl))
  · exact Or.inr (hg g e)
  · exact Or.inl (hO _ (Or.inr (Or.inr ⟨f, hM f hf, b, e, rfl⟩)))
theorem td_mem {L : List Fil} {i : Nat} : ∀ f ∈ L.take i ++ L.drop (i + 1), f ∈ L := fun f hf => by
  rcases List.mem_append.1 hf with hf | hf
  · exact List.mem_of_mem_take hf
  · exact List.mem_of_mem_drop hf
set_option maxHeartbeats 1000000 in
/-- Remove (52). -/
theorem r_remove {w : World} {q room : Nat} {C : List CF} {O : Nat → Prop} (h : RDC w q room C O) (hf : Fine room C) (s : ByteArray) (hs : s.size ≤ maxLen) :
    Calls Try.prog 52 #[.pointer (some ⟨q, 0, none⟩), .string s] w fun e w' => e = .returned (.int .i64 (oneE C s)) ∧ AftR w w' q room (remC C s) O := by
  obtain ⟨L, a, cap, hr, rfl, hO⟩ := h
  have H := Lib.hid hr
  have HO := Lib.hid hO
  have hl := len_fine hf
  have HA := Lib.hid hf.apart
  have HK := Lib.hid (fun w' (b : Below w.heap.size w w') => AftR.keep ⟨L, a, cap, hr, rfl, hO⟩ b)
  clear hr hO hf
  go_enter Try.func52, Try.ntmps52
  go_wp2_with fail
  refine (rask_law H.out hl s hs).mono ?_
  rintro e w' ⟨⟨r, E, rfl, hA⟩, rfl⟩
  have HE := Lib.hid (ask_one hA)
  rcases hA with ⟨h1, rfl, rfl⟩ | ⟨h1, h2, rfl, rfl⟩ | ⟨h1, i, f, h2, h3, rfl, rfl⟩
  · have e2 : oneE (L.map core) s = 2 := by have := HE.out; omega
    have HC := Lib.hid (show remC (L.map core) s = L.map core by unfold remC; rw [e2]; rfl)
    clear e2
    go_wp2
    go_ret
    exact ⟨by rw [HE.out]; rfl, by rw [HC.out]; exact HK.out w (Below.refl _ _)⟩
  · have e6 : oneE (L.map core) s = 6 := by have := HE.out; omega
    have HC := Lib.hid (show remC (L.map core) s = L.map core by unfold remC; rw [e6]; rfl)
    clear e6 h2
    go_wp2
    go_ret
    exact ⟨by rw [HE.out]; rfl, by rw [HC.out]; exact HK.out w (Below.refl _ _)⟩
  · have e0 : oneE (L.map core) s = 0 := by have := HE.out; omega
    have HC := Lib.hid (show remC (L.map core) s = (L.take i ++ L.drop (i + 1)).map core by unfold remC; rw [e0, out_at HA.out h2, h3]; rfl)
    have HO2 := Lib.hid (rout_law H.out hl i f h2)
    clear e0 h2 h3
    go_wp2_with fail
    refine HO2.out.mono ?_
    rintro e w1 ⟨rfl, ⟨a', cap', hr1, hg1⟩, hoff⟩
    have HR := Lib.hid hr1
    have HG := Lib.hid hg1
    have HF := Lib.hid hoff
    clear hr1 hg1 hoff
    go_wp2
    go_ret
    exact ⟨by rw [HE.out]; rfl, by rw [HC.out]; exact ⟨⟨_, a', cap', HR.out, rfl, out_own HO.out td_mem HG.out⟩, HF.out⟩⟩
end Go.Proofs.Ytbjhcbiihekceaa
