/- A store at a key that is there, while a range over the map is under way. -/
import Derived.Test.YtbjhcbiihekceaaDc3
namespace Go.Proofs.Ytbjhcbiihekceaa
open Go.ChangeShapes Go.WideShapes Go.ChangeAt Go.RowKit Go.Maps Go.WideElems Go.ChangeMaps
set_option linter.unusedVariables false
set_option linter.unusedSimpArgs false
theorem born_len (seen : Array Nat) (a b : Array MapEntry) (h : a.toList.map (·.born) = b.toList.map (·.born)) : (leftOf a seen).size = (leftOf b seen).size := by
  have e1 : ∀ a : Array MapEntry, (leftOf a seen).size = ((a.toList.map (·.born)).filter fun x => !seen.contains x).length := fun a => by
    unfold leftOf
    rw [← Array.length_toList, Array.toList_filter, List.filter_map, List.length_map]
    rfl
  rw [e1, e1, h]
theorem ranges_store {H : Type} {P : Program} {k t e : TypeId} {R : Value → Option (DataW H × List MemPlace)} {w : World} {b r n : Nat} {D : DataW H} {left : Lit → Bool} {cnt : Nat} (h : w.ranges P k R b r n D left cnt) (K : Keyed P k) (ht : P.underlying t = some (.map k e)) (hn : n < maxLen) {key val : Value} {kl : Lit} {d : DataW H} {ps : List MemPlace}
    (hkey : keyOf P k key = some kl) (hhas : Maps.has D kl = true) (hv : R val = some (d, ps)) :
    ∃ w', (Instr.mapUpdate t (.map (some b)) key val).run P w = .ok () w' ∧ w'.ranges P k R b r n (D.put kl d) left cnt ∧ w.grownBy w' (some b) := by
  have hne := h.ne
  obtain ⟨es, clock, since, seen, c0, hb, F, hs, rfl, hr, hold, rfl, hl1, hl2, hsc, hsk⟩ := h
  obtain ⟨es', clock', hrun, F', hput, _⟩ := Maps.fit_store (R' := R) K ht hb F (Nat.lt_of_le_of_lt hs hn) (fun _ _ _ _ hz => hz) hkey hv
  rcases K.find w hkey es.toList F.keys with ⟨h1, h2⟩ | ⟨j, e0, h1, h2, h3⟩
  · exfalso
    rw [Maps.has_eq, List.any_eq_true] at hhas
    obtain ⟨q, hq, hqk⟩ := hhas
    obtain ⟨x, hx, rfl⟩ := List.mem_map.1 (mem_sorted.1 hq)
    obtain ⟨y, hy⟩ := F.reads x hx
    have e1 := WideAt.sameKey_eq hqk
    rw [rg_of hy] at e1
    exact h2 x hx (K.inj (e1 ▸ rd_key hy) hkey)
  · have hj : es[j]? = some e0 := by simpa using h2
    have hrun2 : (Instr.mapUpdate t (.map (some b)) key val).run P w = .ok () (setBlock w b (.map (es.modify j (fun e' => { e' with key := key, val := val })) clock)) := by
      simp [Instr.mapUpdate, run_underlying ht, MapKept.run_getObj_map hb, K.check w false hkey, h1, hj, h3, K.stays w hkey, MapKept.run_setObj_map _ hb, Result.andThen, setBlock]
    have e2 : setBlock w b (.map es' clock') = setBlock w b (.map (es.modify j (fun e' => { e' with key := key, val := val })) clock) := by
      have := hrun.symm.trans hrun2
      injection this
    have e3 : (.map es' clock' : Obj) = .map (es.modify j (fun e' => { e' with key := key, val := val })) clock := by
      have h4 := heap_setBlock_same hb (.map es' clock')
      rw [e2, heap_setBlock_same hb] at h4
      exact (Option.some.inj h4).symm
    injection e3 with e4 e5
    subst e4 e5
    have hjs : j < es.size := (Array.getElem?_eq_some_iff.1 hj).1
    have hlist : (es.modify j (fun e' => { e' with key := key, val := val })).toList = es.toList.set j { e0 with key := key, val := val } := by
      rw [Array.toList_modify]
      apply List.ext_getElem?
      intro i
      rw [List.getElem?_modify, List.getElem?_set]
      by_cases e : j = i
      · subst e
        rw [h2]; simp; exact hjs
      · simp [e]
    have hborn : (es.modify j (fun e' => { e' with key := key, val := val })).toList.map (·.born) = es.toList.map (·.born) := by
      rw [hlist, List.map_set]
      apply List.ext_getElem?
      intro i
      rw [List.getElem?_set]
      by_cases e : j = i
      · subst e
        simp [h2]; exact hjs
      · simp [e]
    have hmem : ∀ x ∈ (es.modify j (fun e' => { e' with key := key, val := val })).toList, x = { e0 with key := key, val := val } ∨ x ∈ es.toList := fun x hx => by
      rw [hlist] at hx
      rcases List.mem_or_eq_of_mem_set hx with h | h
      · exact Or.inr h
      · exact Or.inl h
    have he0 : e0 ∈ es.toList := List.mem_of_getElem? h2
    obtain ⟨y0, hy0⟩ := F.reads e0 he0
    have hk0 : (rg P k R e0).1 = kl := by
      rw [rg_of hy0]
      have := rd_key hy0
      rw [h3, hkey] at this
      exact (Option.some.inj this).symm
    have hkn : (rg P k R { e0 with key := key, val := val }).1 = kl := by
      have := rg_of (rd_mk (born := e0.born) hkey hv)
      rw [this]
    refine ⟨_, hrun, ⟨_, clock', since, seen, c0, heap_setBlock_same hb _, F', by simpa using hs, by rw [DataW.put_eq, hput], (heap_setBlock_other hb _ hne).trans hr, fun x hx => ?_, born_len seen _ _ hborn, fun x hx => ?_, fun x0 hx0 => ?_, hsc, hsk⟩, ⟨rfl, rfl, rfl, by simp [setBlock], fun i _ hi => heap_setBlock_other hb _ (fun e => hi (by rw [e]))⟩⟩
    · rcases hmem x hx with rfl | h
      · exact hold e0 he0
      · exact hold x h
    · rcases hmem x hx with rfl | h
      · rw [hkn, ← hk0]; exact hl1 e0 he0
      · exact hl1 x h
    · obtain ⟨x, hx, rfl⟩ := hl2 x0 hx0
      obtain ⟨i, hi⟩ := List.getElem?_of_mem hx
      by_cases e : j = i
      · subst e
        rw [h2] at hi; cases hi
        refine ⟨{ e0 with key := key, val := val }, ?_, by rw [hkn, hk0]⟩
        rw [hlist]
        exact List.mem_set (List.getElem?_eq_some_iff.1 h2).1 _
      · refine ⟨x, ?_, rfl⟩
        rw [hlist]
        exact List.mem_of_getElem? (i := i) (by rw [List.getElem?_set]; simp [e, hi])
end Go.Proofs.Ytbjhcbiihekceaa
