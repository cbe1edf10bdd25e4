/- Disks: what one has, its memory hidden; each call in such words. -/
import Derived.Test.YtbjhcbiihekceaaDc7
namespace Go.Proofs.Ytbjhcbiihekceaa
open Go.ChangeShapes Go.WideShapes Go.ChangeAt Go.RowKit Go.Maps
set_option linter.unusedVariables false
set_option linter.unusedSimpArgs false
/-- A file as the chapter has it: its name, its bytes, how many last. -/
abbrev CF := ByteArray × List Int × Nat
def cFind (C : List CF) (s : ByteArray) : Option CF := C.find? fun c => decide (c.1 = s)
def cIns (c : CF) : List CF → List CF
  | [] => [c]
  | g :: r => if (skey c.1).before (skey g.1) then c :: g :: r else g :: cIns c r
def cDel (s : ByteArray) (C : List CF) : List CF := C.filter fun c => !decide (c.1 = s)
def cPut (c : CF) (C : List CF) : List CF := cIns c (cDel c.1 C)
def cSum (C : List CF) : Nat := (C.map fun c => c.2.1.length).sum
theorem find_core (L : List Fil) (s : ByteArray) : cFind (L.map core) s = (look L s).map core := by
  unfold cFind look
  rw [List.find?_map]
  rfl
theorem ins_core (f : Fil) : ∀ L, (insL f L).map core = cIns (core f) (L.map core)
  | [] => rfl
  | g :: r => by
    show (if f.key.before g.key then f :: g :: r else g :: insL f r).map core = if f.key.before g.key then core f :: core g :: r.map core else core g :: cIns (core f) (r.map core)
    split
    · rfl
    · rw [List.map_cons, ins_core f r]
theorem del_core (s : ByteArray) (L : List Fil) : (delL s L).map core = cDel s (L.map core) := by
  unfold delL cDel
  rw [List.filter_map]
  rfl
theorem put_core (f : Fil) (L : List Fil) : (putL f L).map core = cPut (core f) (L.map core) := by
  unfold putL cPut
  rw [ins_core, del_core]
  rfl
theorem sum_core (L : List Fil) : (L.map fun f => f.bs.length).sum = cSum (L.map core) := by
  unfold cSum
  rw [List.map_map]
  rfl
/-- A disk has just these files; its blocks are among O. -/
def DC (W : World) (p bm room : Nat) (C : List CF) (O : Nat → Prop) : Prop := ∃ L, Dk W p bm room L ∧ L.map core = C ∧ ∀ k, Own p bm L k → O k
theorem DC.below {W W' : World} {p bm room : Nat} {C : List CF} {O : Nat → Prop} (h : DC W p bm room C O) (b : Below W.heap.size W W') : DC W' p bm room C O := by
  obtain ⟨L, h1, h2, h3⟩ := h
  exact ⟨L, h1.below b, h2, h3⟩
theorem DC.mono {W : World} {p bm room : Nat} {C : List CF} {O O' : Nat → Prop} (h : DC W p bm room C O) (b : ∀ k, O k → k < W.heap.size → O' k) : DC W p bm room C O' := by
  obtain ⟨L, h1, h2, h3⟩ := h
  exact ⟨L, h1, h2, fun k hk => b k (h3 k hk) (h1.lt hk)⟩
theorem DC.off {S : Nat → Prop} {W W' : World} {p bm room : Nat} {C : List CF} {O : Nat → Prop} (h : DC W p bm room C O) (o : Off S W W') (hn : ∀ k, k < W.heap.size → O k → ¬ S k) : DC W' p bm room C O := by
  obtain ⟨L, h1, h2, h3⟩ := h
  exact ⟨L, h1.off o fun k hk => hn k (h1.lt hk) (h3 k hk), h2, h3⟩
/-- Behind a call: the disk has such files; nothing else is changed. -/
def Aft (w w' : World) (p bm room : Nat) (C : List CF) (O : Nat → Prop) : Prop := DC w' p bm room C (fun k => O k ∨ w.heap.size ≤ k) ∧ Off O w w'
theorem Aft.keep {w w' : World} {p bm room : Nat} {C : List CF} {O : Nat → Prop} (h : DC w p bm room C O) (b : Below w.heap.size w w') : Aft w w' p bm room C O := ⟨(h.below b).mono fun k hk _ => Or.inl hk, Off.of b⟩
theorem own_eq {p bm : Nat} {L L' : List Fil} (h : ∀ x ∈ L', x.blk = none ∨ ∃ y ∈ L, x.blk = y.blk) {k : Nat} (hk : Own p bm L' k) : Own p bm L k := by
  rcases hk with e | e | ⟨x, hx, e⟩
  · exact Or.inl e
  · exact Or.inr (Or.inl e)
  · rcases h x hx with e2 | ⟨y, hy, e2⟩
    · rw [e2] at e; cases e
    · exact Or.inr (Or.inr ⟨y, hy, by rw [← e2]; exact e⟩)
def appE (room : Nat) (C : List CF) (s : ByteArray) (n : Nat) : Int := if mayB s = false then 2 else if room < cSum C + n then 5 else if (cFind C s).isNone = true ∧ C.length = 64 then 5 else 0
/-- The file of that name, or a new one. -/
def cOld (C : List CF) (s : ByteArray) : CF := (cFind C s).getD (s, [], 0)
def appC (room : Nat) (C : List CF) (s : ByteArray) (B : List Int) : List CF := if appE room C s B.length = 0 then cPut (s, (cOld C s).2.1 ++ B, (cOld C s).2.2) C else C
set_option maxHeartbeats 1000000 in
/-- Append (27). -/
theorem c_append {w : World} {p bm room : Nat} {C : List CF} {O : Nat → Prop} (h : DC w p bm room C O) (s : ByteArray) (hs : s.size ≤ maxLen) (ba : Option Addr) (bn bc : Nat) (B : List Int) (hBn : B.length = bn) (hbn : bn ≤ 1099511627776) (hB : Byt B) (hLs : Ls .u8 w ba bc B) :
    Calls Try.prog 27 #[.pointer (some ⟨p, 0, none⟩), .string s, .slice ba bn bc] w fun e w' => e = .returned (.int .i64 (appE room C s bn)) ∧ Aft w w' p bm room (appC room C s B) O := by
  obtain ⟨L, h1, rfl, h3⟩ := h
  have hD : DC w p bm room (L.map core) O := ⟨L, h1, rfl, h3⟩
  subst hBn
  by_cases hm : mayB s = true
  · obtain ⟨f, ok, hf⟩ := at_file L s
    have hfull : ∀ e, appE room (L.map core) s B.length = e → e ≠ 0 → appC room (L.map core) s B = L.map core := fun e he hne => by unfold appC; rw [he, if_neg hne]
    by_cases hr : room < (L.map fun f => f.bs.length).sum + B.length
    · have e5 : appE room (L.map core) s B.length = 5 := by unfold appE; rw [if_neg (by rw [hm]; simp), if_pos (by rw [← sum_core]; exact hr)]
      rw [e5, hfull 5 e5 (by decide)]
      exact (dappend_full h1 s hm ba B.length bc hbn f ok hf (Or.inl hr)).mono fun e w' ⟨a, b⟩ => ⟨a, Aft.keep hD b⟩
    · have hnone : (cFind (L.map core) s).isNone = !ok := by
        rw [find_core]
        rcases hf.2 with ⟨e1, e2⟩ | ⟨e1, e2, _⟩ <;> rw [e1, e2] <;> rfl
      by_cases hw : ok = false ∧ L.length = 64
      · have e5 : appE room (L.map core) s B.length = 5 := by unfold appE; rw [if_neg (by rw [hm]; simp), if_neg (by rw [← sum_core]; exact hr), if_pos (by rw [hnone, hw.1, List.length_map]; exact ⟨rfl, hw.2⟩)]
        rw [e5, hfull 5 e5 (by decide)]
        exact (dappend_full h1 s hm ba B.length bc hbn f ok hf (Or.inr ⟨by omega, hw⟩)).mono fun e w' ⟨a, b⟩ => ⟨a, Aft.keep hD b⟩
      · have e0 : appE room (L.map core) s B.length = 0 := by unfold appE; rw [if_neg (by rw [hm]; simp), if_neg (by rw [← sum_core]; exact hr), if_neg (by rw [hnone, List.length_map]; rintro ⟨x1, x2⟩; exact hw ⟨by simpa using x1, x2⟩)]
        have eC : appC room (L.map core) s B = cPut (s, f.bs ++ B, f.last) (L.map core) := by
          unfold appC cOld
          rw [if_pos e0, find_core]
          rcases hf.2 with ⟨e1, e2⟩ | ⟨e1, e2, e3⟩
          · rw [e2]; rfl
          · rw [e2, e3]; rfl
        rw [e0, eC]
        refine (dappend_law h1 s hm ba B.length bc B rfl hB hLs f ok hf (by omega) (fun e => ?_)).mono ?_
        · have := h1.ok.few
          have : L.length ≠ 64 := fun e2 => hw ⟨e, e2⟩
          omega
        · rintro e w' ⟨rfl, ad', cap', hd, ho, hb⟩
          have hown : ∀ k, f.blk = some k → Own p bm L k := fun k hk => by
            rcases hf.2 with ⟨e1, e2⟩ | ⟨e1, e2, e3⟩
            · exact Or.inr (Or.inr ⟨f, (look_mem e2).1, hk⟩)
            · rw [e3] at hk; cases hk
          refine ⟨rfl, ⟨_, hd, ?_, fun k hk => ?_⟩, ho.mono fun k hk => ?_⟩
          · rw [put_core]
            unfold core moreF
            simp only
            rw [hf.1]
          · rcases hk with e | e | ⟨x, hx, e⟩
            · exact Or.inl (h3 k (Or.inl e))
            · exact Or.inl (h3 k (Or.inr (Or.inl e)))
            · rcases mem_putL.1 hx with rfl | hx
              · rcases hb with e2 | ⟨k2, hk2, e2⟩
                · rw [e2] at e; exact Or.inl (h3 k (hown k e))
                · rw [e2] at e; cases e; exact Or.inr hk2
              · exact Or.inl (h3 k (Or.inr (Or.inr ⟨x, hx.1, e⟩)))
          · rcases hk with rfl | hk
            · exact h3 _ (Or.inr (Or.inl rfl))
            · exact h3 k (hown k hk)
  · have hm' : mayB s = false := by simpa using hm
    have e2 : appE room (L.map core) s B.length = 2 := by unfold appE; rw [if_pos hm']
    rw [show appC room (L.map core) s B = L.map core by unfold appC; rw [e2]; rfl, e2]
    exact (dappend_bad h1 s hs hm' ba B.length bc).mono fun e w' ⟨a, b⟩ => ⟨a, Aft.keep hD b⟩
/-- The error of a call that wants a file. -/
def oneE (C : List CF) (s : ByteArray) : Nat := if mayB s = false then 2 else if (cFind C s).isNone = true then 6 else 0
theorem oneE_no {L : List Fil} {s : ByteArray} (h : ¬ (mayB s = true ∧ ∃ f, look L s = some f)) : (mayB s = true ∧ look L s = none ∧ oneE (L.map core) s = 6) ∨ (mayB s = false ∧ oneE (L.map core) s = 2) := by
  unfold oneE
  by_cases hm : mayB s = true
  · left
    have hn : look L s = none := by
      cases e : look L s with
      | none => rfl
      | some f => exact absurd ⟨hm, f, e⟩ h
    refine ⟨hm, hn, ?_⟩
    rw [if_neg (by rw [hm]; simp), if_pos (by rw [find_core, hn]; rfl)]
  · have hm' : mayB s = false := by simpa using hm
    exact Or.inr ⟨hm', by rw [if_pos hm']⟩
theorem oneE_yes {L : List Fil} {s : ByteArray} {f : Fil} (hm : mayB s = true) (hf : look L s = some f) : oneE (L.map core) s = 0 := by
  unfold oneE
  rw [if_neg (by rw [hm]; simp), if_neg (by rw [find_core, hf]; simp)]
def syncC (C : List CF) (s : ByteArray) : List CF := if oneE C s = 0 then cPut (s, (cOld C s).2.1, (cOld C s).2.1.length) C else C
def remC (C : List CF) (s : ByteArray) : List CF := if oneE C s = 0 then cDel s C else C
theorem old_core {L : List Fil} {s : ByteArray} {f : Fil} (hf : look L s = some f) : cOld (L.map core) s = core f := by
  unfold cOld
  rw [find_core, hf]
  rfl
/-- Sync (45). -/
theorem c_sync {w : World} {p bm room : Nat} {C : List CF} {O : Nat → Prop} (h : DC w p bm room C O) (s : ByteArray) (hs : s.size ≤ maxLen) :
    Calls Try.prog 45 #[.pointer (some ⟨p, 0, none⟩), .string s] w fun e w' => e = .returned (.int .i64 (oneE C s)) ∧ Aft w w' p bm room (syncC C s) O := by
  obtain ⟨L, h1, rfl, h3⟩ := h
  have hD : DC w p bm room (L.map core) O := ⟨L, h1, rfl, h3⟩
  by_cases hh : mayB s = true ∧ ∃ f, look L s = some f
  · obtain ⟨hm, f, hf⟩ := hh
    have e0 := oneE_yes hm hf
    unfold syncC
    rw [e0, if_pos rfl, old_core hf]
    obtain ⟨hfm, rfl⟩ := look_mem hf
    refine (dsync_law h1 f.nm hm f hf).mono ?_
    rintro e w' ⟨rfl, hd, ho⟩
    refine ⟨rfl, ⟨_, hd, put_core _ _, fun k hk => Or.inl (h3 k (own_eq (fun x hx => ?_) hk))⟩, ho.mono fun k hk => hk ▸ h3 bm (Or.inr (Or.inl rfl))⟩
    rcases mem_putL.1 hx with rfl | hx
    · exact Or.inr ⟨f, hfm, rfl⟩
    · exact Or.inr ⟨x, hx.1, rfl⟩
  · have hk := oneE_no hh
    have e1 : syncC (L.map core) s = L.map core := by
      unfold syncC
      rw [if_neg]
      rcases hk with ⟨_, _, e⟩ | ⟨_, e⟩ <;> rw [e] <;> decide
    rw [e1]
    exact (dsync_no h1 s hs _ hk).mono fun e w' ⟨a, b⟩ => ⟨a, Aft.keep hD b⟩
/-- Remove (51). -/
theorem c_remove {w : World} {p bm room : Nat} {C : List CF} {O : Nat → Prop} (h : DC w p bm room C O) (s : ByteArray) (hs : s.size ≤ maxLen) :
    Calls Try.prog 51 #[.pointer (some ⟨p, 0, none⟩), .string s] w fun e w' => e = .returned (.int .i64 (oneE C s)) ∧ Aft w w' p bm room (remC C s) O := by
  obtain ⟨L, h1, rfl, h3⟩ := h
  have hD : DC w p bm room (L.map core) O := ⟨L, h1, rfl, h3⟩
  by_cases hh : mayB s = true ∧ ∃ f, look L s = some f
  · obtain ⟨hm, f, hf⟩ := hh
    have e0 := oneE_yes hm hf
    unfold remC
    rw [e0, if_pos rfl]
    refine (dremove_law h1 s hm f hf).mono ?_
    rintro e w' ⟨rfl, hd, ho⟩
    exact ⟨rfl, ⟨_, hd, del_core _ _, fun k hk => Or.inl (h3 k (own_eq (fun x hx => Or.inr ⟨x, (mem_delL.1 hx).1, rfl⟩) hk))⟩, ho.mono fun k hk => hk ▸ h3 bm (Or.inr (Or.inl rfl))⟩
  · have hk := oneE_no hh
    have e1 : remC (L.map core) s = L.map core := by
      unfold remC
      rw [if_neg]
      rcases hk with ⟨_, _, e⟩ | ⟨_, e⟩ <;> rw [e] <;> decide
    rw [e1]
    exact (dremove_no h1 s hs _ hk).mono fun e w' ⟨a, b⟩ => ⟨a, Aft.keep hD b⟩
def renE (C : List CF) (s to : ByteArray) : Nat := if mayB s = false ∨ mayB to = false then 2 else if (cFind C s).isNone = true then 6 else 0
def renC (C : List CF) (s to : ByteArray) : List CF := if renE C s to = 0 then cPut (to, (cOld C s).2) (cDel s C) else C
/-- Rename (47). -/
theorem c_rename {w : World} {p bm room : Nat} {C : List CF} {O : Nat → Prop} (h : DC w p bm room C O) (s to : ByteArray) (hs : s.size ≤ maxLen) (ht : to.size ≤ maxLen) :
    Calls Try.prog 47 #[.pointer (some ⟨p, 0, none⟩), .string s, .string to] w fun e w' => e = .returned (.int .i64 (renE C s to)) ∧ Aft w w' p bm room (renC C s to) O := by
  obtain ⟨L, h1, rfl, h3⟩ := h
  have hD : DC w p bm room (L.map core) O := ⟨L, h1, rfl, h3⟩
  by_cases hm : mayB s = false ∨ mayB to = false
  · have e2 : renE (L.map core) s to = 2 := by unfold renE; rw [if_pos hm]
    rw [show renC (L.map core) s to = L.map core by unfold renC; rw [e2]; rfl, e2]
    exact (drename_bad h1 s to hs ht hm).mono fun e w' ⟨a, b⟩ => ⟨a, Aft.keep hD b⟩
  · have hm1 : mayB s = true := by
      cases e : mayB s
      · exact absurd (Or.inl e) hm
      · rfl
    have hm2 : mayB to = true := by
      cases e : mayB to
      · exact absurd (Or.inr e) hm
      · rfl
    cases hf : look L s with
    | none =>
      have e6 : renE (L.map core) s to = 6 := by unfold renE; rw [if_neg hm, if_pos (by rw [find_core, hf]; rfl)]
      rw [show renC (L.map core) s to = L.map core by unfold renC; rw [e6]; rfl, e6]
      exact (drename_no h1 s to hm1 hm2 hf).mono fun e w' ⟨a, b⟩ => ⟨a, Aft.keep hD b⟩
    | some f =>
      have e0 : renE (L.map core) s to = 0 := by unfold renE; rw [if_neg hm, if_neg (by rw [find_core, hf]; simp)]
      unfold renC
      rw [e0, if_pos rfl, old_core hf]
      refine (drename_law h1 s to hm1 hm2 f hf).mono ?_
      rintro e w' ⟨rfl, hd, ho⟩
      refine ⟨rfl, ⟨_, hd, by rw [put_core, del_core]; rfl, fun k hk => Or.inl (h3 k (own_eq (fun x hx => ?_) hk))⟩, ho.mono fun k hk => hk ▸ h3 bm (Or.inr (Or.inl rfl))⟩
      rcases mem_putL.1 hx with rfl | hx
      · exact Or.inr ⟨f, (look_mem hf).1, rfl⟩
      · exact Or.inr ⟨x, (mem_delL.1 hx.1).1, rfl⟩
def lastV (C : List CF) (s : ByteArray) : Nat := if oneE C s = 0 then (cOld C s).2.2 else 0
def readV (C : List CF) (s : ByteArray) : List Int := if oneE C s = 0 then (cOld C s).2.1 else []
/-- Lasting (46). -/
theorem c_last {w : World} {p bm room : Nat} {C : List CF} {O : Nat → Prop} (h : DC w p bm room C O) (s : ByteArray) (hs : s.size ≤ maxLen) :
    Calls Try.prog 46 #[.pointer (some ⟨p, 0, none⟩), .string s] w fun e w' => e = .returned (.tuple #[.int .i64 (lastV C s), .int .i64 (oneE C s)]) ∧ Below w.heap.size w w' := by
  obtain ⟨L, h1, rfl, h3⟩ := h
  by_cases hh : mayB s = true ∧ ∃ f, look L s = some f
  · obtain ⟨hm, f, hf⟩ := hh
    have e0 := oneE_yes hm hf
    unfold lastV
    rw [e0, if_pos rfl, old_core hf]
    exact dlast_law h1 s hm f hf
  · have hk := oneE_no hh
    have e1 : lastV (L.map core) s = 0 := by
      unfold lastV
      rw [if_neg]
      rcases hk with ⟨_, _, e⟩ | ⟨_, e⟩ <;> rw [e] <;> decide
    rw [e1]
    exact dlast_no h1 s hs _ hk
theorem own_nil (w : World) (base : Nat) : w.ownsRow base 5 1 (.slice none 0 0) 0 [] := ⟨rfl, Or.inl ⟨rfl, rfl⟩⟩
/-- Read (26). -/
theorem c_read {w : World} {p bm room : Nat} {C : List CF} {O : Nat → Prop} (h : DC w p bm room C O) (s : ByteArray) (hs : s.size ≤ maxLen) :
    Calls Try.prog 26 #[.pointer (some ⟨p, 0, none⟩), .string s] w fun e w' => ∃ v, e = .returned (.tuple #[v, .int .i64 (oneE C s)]) ∧ w'.ownsRow w.heap.size 5 1 v (readV C s).length (iv .u8 (readV C s)) ∧ Below w.heap.size w w' := by
  obtain ⟨L, h1, rfl, h3⟩ := h
  by_cases hh : mayB s = true ∧ ∃ f, look L s = some f
  · obtain ⟨hm, f, hf⟩ := hh
    have e0 := oneE_yes hm hf
    unfold readV
    rw [e0, if_pos rfl, old_core hf]
    exact dread_law h1 s hm f hf
  · have hk := oneE_no hh
    have e1 : readV (L.map core) s = [] := by
      unfold readV
      rw [if_neg]
      rcases hk with ⟨_, _, e⟩ | ⟨_, e⟩ <;> rw [e] <;> decide
    rw [e1]
    exact (dread_no h1 s hs _ hk).mono fun e w' ⟨a, b⟩ => ⟨_, a, own_nil _ _, b⟩
/-- Names (22), Used (23), Room (24). -/
theorem c_names {w : World} {p bm room : Nat} {C : List CF} {O : Nat → Prop} (h : DC w p bm room C O) :
    Calls Try.prog 22 #[.pointer (some ⟨p, 0, none⟩)] w fun e w' => ∃ v, e = .returned v ∧ w'.ownsRow w.heap.size 9 1 v C.length (C.map fun c => .string c.1) ∧ Below w.heap.size w w' := by
  obtain ⟨L, h1, rfl, h3⟩ := h
  rw [List.length_map, List.map_map]
  exact dnames_law h1
theorem c_used {w : World} {p bm room : Nat} {C : List CF} {O : Nat → Prop} (h : DC w p bm room C O) :
    Calls Try.prog 23 #[.pointer (some ⟨p, 0, none⟩)] w fun e w' => e = .returned (.int .i64 (cSum C)) ∧ Below w.heap.size w w' := by
  obtain ⟨L, h1, rfl, h3⟩ := h
  rw [← sum_core]
  exact dused_law h1
theorem c_room {w : World} {p bm room : Nat} {C : List CF} {O : Nat → Prop} (h : DC w p bm room C O) :
    Calls Try.prog 24 #[.pointer (some ⟨p, 0, none⟩)] w fun e w' => e = .returned (.int .i64 room) ∧ w = w' := by
  obtain ⟨L, h1, rfl, h3⟩ := h
  exact droom_law h1
/-- New (12). -/
theorem c_new (room : Nat) (h1 : 1024 ≤ room) (h2 : room ≤ 1048576) (w : World) : Calls Try.prog 12 #[.int .i64 room] w fun e w' => e = .returned (.tuple #[.pointer (some ⟨w.heap.size + 1, 0, none⟩), .int .i64 0]) ∧ DC w' (w.heap.size + 1) w.heap.size room [] (fun k => w.heap.size ≤ k) ∧ Below w.heap.size w w' :=
  (dnew_law room h1 h2 w).mono fun e w' ⟨a, b, c⟩ => ⟨a, ⟨[], b, rfl, fun k hk => by
    rcases hk with rfl | rfl | ⟨f, hf, _⟩
    · omega
    · omega
    · cases hf⟩, c⟩
/-- Copy (55). -/
theorem c_copy {w : World} {p bm room : Nat} {C : List CF} {O : Nat → Prop} (h : DC w p bm room C O) :
    Calls Try.prog 55 #[.pointer (some ⟨p, 0, none⟩)] w fun e w' => e = .returned (.pointer (some ⟨w.heap.size + 1, 0, none⟩)) ∧ DC w' (w.heap.size + 1) w.heap.size room C (fun k => w.heap.size ≤ k) ∧ Below w.heap.size w w' := by
  obtain ⟨L, h1, rfl, h3⟩ := h
  exact (dcopy_same h1).mono fun e w' ⟨Lc, a, b, c, d, f⟩ => ⟨a, ⟨Lc, b, c, d⟩, f⟩
def cutV (ks : List (ByteArray × Int)) (c : CF) : CF := (c.1, c.2.1.take (c.2.2 + min (loose ks c.1).toNat (c.2.1.length - c.2.2)), c.2.2 + min (loose ks c.1).toNat (c.2.1.length - c.2.2))
instance (ks : List (ByteArray × Int)) : Decidable (KOk ks) := decidable_of_iff ((∀ k ∈ ks, mayB k.1 = true ∧ 0 ≤ k.2) ∧ ks.Pairwise fun a b => a.1 ≠ b.1) ⟨fun h => ⟨h.1, h.2⟩, fun h => ⟨h.each, h.once⟩⟩
def crE (C : List CF) (ks : List (ByteArray × Int)) : Nat := if ¬ KOk ks then 2 else if ∃ k ∈ ks, (cFind C k.1).isNone = true then 6 else 0
/-- Crash (21). -/
theorem c_crash {w : World} {p bm room : Nat} {C : List CF} {O : Nat → Prop} (h : DC w p bm room C O) (ad : Option Addr) (ks : List (ByteArray × Int)) (n cp : Nat) (hn : ks.length = n) (hK : Kps w ad ks) (hKs : ∀ k ∈ ks, k.1.size ≤ maxLen) (hKl : ks.length ≤ 1000000) :
    Calls Try.prog 21 #[.pointer (some ⟨p, 0, none⟩), .slice ad n cp] w fun e w' => Below w.heap.size w w' ∧ ∃ q, e = .returned (.tuple #[.pointer q, .int .i64 (crE C ks)]) ∧ (crE C ks ≠ 0 → q = none) ∧ (crE C ks = 0 → ∃ p' bm', q = some ⟨p', 0, none⟩ ∧ DC w' p' bm' room (C.map (cutV ks)) (fun k => w.heap.size ≤ k)) := by
  obtain ⟨L, h1, rfl, h3⟩ := h
  subst hn
  have hnone : ∀ k : ByteArray × Int, (cFind (L.map core) k.1).isNone = true ↔ look L k.1 = none := fun k => by
    rw [find_core]
    cases look L k.1 <;> simp
  refine (dcrash_law h1 ad ks cp hK hKs hKl).mono ?_
  rintro e w' ⟨hb, ⟨a, rfl⟩ | ⟨a, ⟨k, hk, b⟩, rfl⟩ | ⟨a, b, p', bm', Lc, rfl, hd, hc, ho⟩⟩
  · have e2 : crE (L.map core) ks = 2 := by unfold crE; rw [if_pos a]
    exact ⟨hb, none, by rw [e2]; rfl, fun _ => rfl, fun h => by rw [e2] at h; cases h⟩
  · have e6 : crE (L.map core) ks = 6 := by unfold crE; rw [if_neg (by simpa using a), if_pos ⟨k, hk, (hnone k).2 b⟩]
    exact ⟨hb, none, by rw [e6]; rfl, fun _ => rfl, fun h => by rw [e6] at h; cases h⟩
  · have e0 : crE (L.map core) ks = 0 := by
      unfold crE
      rw [if_neg (by simpa using a), if_neg]
      rintro ⟨k, hk, hx⟩
      have h2 := b k hk
      rw [(hnone k).1 hx] at h2
      cases h2
    refine ⟨hb, some ⟨p', 0, none⟩, by rw [e0]; rfl, fun h => absurd e0 h, fun _ => ⟨p', bm', rfl, Lc, hd, ?_, ho⟩⟩
    rw [hc, List.map_map]
    rfl
end Go.Proofs.Ytbjhcbiihekceaa
