/- Disks: the chapter's rows: each call by itself. -/
import Derived.Test.YtbjhcbiihekceaaDd1
namespace Go.Proofs.Ytbjhcbiihekceaa
open Go.ChangeShapes Go.WideShapes Go.ChangeAt Go.RowKit Go.Maps
set_option linter.unusedVariables false
set_option linter.unusedSimpArgs false
/-- The chapter's disk: its blocks lie behind w0's, ahead of m. -/
structure KD (w0 : World) (m : Nat) (w : World) (p bm : Nat) (C : List CF) : Prop where
  dc : DC w p bm 1024 C fun k => w0.heap.size ≤ k ∧ k < m
  be : Below w0.heap.size w0 w
  le : m ≤ w.heap.size
  lo : w0.heap.size ≤ m
theorem KD.below {w0 w w' : World} {m p bm : Nat} {C : List CF} (h : KD w0 m w p bm C) (b : Below w.heap.size w w') : KD w0 m w' p bm C :=
  ⟨h.dc.below b, step_below h.be b, Nat.le_trans h.le b.size, h.lo⟩
theorem KD.aft {w0 w w' : World} {m p bm : Nat} {C C' : List CF} (h : KD w0 m w p bm C) (a : Aft w w' p bm 1024 C' fun k => w0.heap.size ≤ k ∧ k < m) : KD w0 w'.heap.size w' p bm C' := by
  have hl := h.le
  have ho := h.lo
  have hb := Off.below h.be a.2 h.be.size fun k hk => hk.1
  exact ⟨a.1.mono fun k hk hlt => by
    rcases hk with hk | hk
    · exact ⟨hk.1, hlt⟩
    · exact ⟨by omega, hlt⟩, hb, Nat.le_refl _, hb.size⟩
theorem Ls.off {S : Nat → Prop} {K : IntKind} {W W' : World} {g cap : Nat} {L : List Int} (h : Ls K W (some ⟨g, 0, none⟩) cap L) (o : Off S W W') (hg : ¬ S g) : Ls K W' (some ⟨g, 0, none⟩) cap L := by
  refine ⟨fun k hk => ?_, h.nl, h.le⟩
  obtain ⟨b, off, e, hc⟩ := h.rd k hk
  cases e
  have hlt : g < W.heap.size := by
    unfold World.cell? at hc
    by_cases hh : g < W.heap.size
    · exact hh
    · simp [Array.getElem?_eq_none (Nat.le_of_not_lt hh)] at hc
  exact ⟨g, 0, rfl, (World.cell?_of_block (w := W) (o.block g hlt hg)).trans hc⟩
theorem kn_app {w0 w : World} {m p bm : Nat} {C : List CF} (h : KD w0 m w p bm C) (s : ByteArray) (hs : s.size ≤ maxLen) (ba : Option Addr) (bn bc : Nat) (B : List Int) (hBn : B.length = bn) (hbn : bn ≤ 1099511627776) (hB : Byt B) (hLs : Ls .u8 w ba bc B) (E : Int) (hE : appE 1024 C s bn = E) (C' : List CF) (hC : appC 1024 C s B = C') :
    Calls Try.prog 27 #[.pointer (some ⟨p, 0, none⟩), .string s, .slice ba bn bc] w fun e w' => e = .returned (.int .i64 E) ∧ KD w0 w'.heap.size w' p bm C' ∧ Off (fun k => k < m) w w' := by
  subst hE hC
  exact (c_append h.dc s hs ba bn bc B hBn hbn hB hLs).mono fun e w' ⟨a, b⟩ => ⟨a, h.aft b, b.2.mono fun k hk => hk.2⟩
theorem kn_sync {w0 w : World} {m p bm : Nat} {C : List CF} (h : KD w0 m w p bm C) (s : ByteArray) (hs : s.size ≤ maxLen) (E : Int) (hE : (oneE C s : Int) = E) (C' : List CF) (hC : syncC C s = C') :
    Calls Try.prog 45 #[.pointer (some ⟨p, 0, none⟩), .string s] w fun e w' => e = .returned (.int .i64 E) ∧ KD w0 w'.heap.size w' p bm C' ∧ Off (fun k => k < m) w w' := by
  subst hE hC
  exact (c_sync h.dc s hs).mono fun e w' ⟨a, b⟩ => ⟨a, h.aft b, b.2.mono fun k hk => hk.2⟩
theorem kn_ren {w0 w : World} {m p bm : Nat} {C : List CF} (h : KD w0 m w p bm C) (s to : ByteArray) (hs : s.size ≤ maxLen) (ht : to.size ≤ maxLen) (E : Int) (hE : (renE C s to : Int) = E) (C' : List CF) (hC : renC C s to = C') :
    Calls Try.prog 47 #[.pointer (some ⟨p, 0, none⟩), .string s, .string to] w fun e w' => e = .returned (.int .i64 E) ∧ KD w0 w'.heap.size w' p bm C' ∧ Off (fun k => w0.heap.size ≤ k ∧ k < m) w w' := by
  subst hE hC
  exact (c_rename h.dc s to hs ht).mono fun e w' ⟨a, b⟩ => ⟨a, h.aft b, b.2⟩
theorem kn_last {w0 w : World} {m p bm : Nat} {C : List CF} (h : KD w0 m w p bm C) (s : ByteArray) (hs : s.size ≤ maxLen) (E : Int) (hE : (oneE C s : Int) = E) (n : Int) (hn : (lastV C s : Int) = n) :
    Calls Try.prog 46 #[.pointer (some ⟨p, 0, none⟩), .string s] w fun e w' => e = .returned (.tuple #[.int .i64 n, .int .i64 E]) ∧ KD w0 m w' p bm C ∧ Below w.heap.size w w' := by
  subst hE hn
  exact (c_last h.dc s hs).mono fun e w' ⟨a, b⟩ => ⟨a, h.below b, b⟩
theorem row_shape {w' : World} {base : Nat} {v : Value} {L : List Int} (h : w'.ownsRow base 5 1 v L.length (iv .u8 L)) : ∃ a cap, v = .slice a L.length cap ∧ Ls .u8 w' a cap L ∧ (0 < L.length → ∃ g, a = some ⟨g, 0, none⟩ ∧ base ≤ g) := own_ls h rfl
theorem dc_read {w : World} {p bm room : Nat} {C : List CF} {O : Nat → Prop} (h : DC w p bm room C O) (s : ByteArray) (hs : s.size ≤ maxLen) (E : Int) (hE : (oneE C s : Int) = E) (L : List Int) (hL : readV C s = L) (n : Nat) (hn : L.length = n) :
    Calls Try.prog 26 #[.pointer (some ⟨p, 0, none⟩), .string s] w fun e w' => ∃ a cap, e = .returned (.tuple #[.slice a n cap, .int .i64 E]) ∧ (Ls .u8 w' a cap L ∧ (0 < n → ∃ g, a = some ⟨g, 0, none⟩ ∧ w.heap.size ≤ g)) ∧ Below w.heap.size w w' := by
  subst hE hL hn
  refine (c_read h s hs).mono ?_
  rintro e w' ⟨v, rfl, ho, hb⟩
  obtain ⟨a, cap, rfl, h1, h2⟩ := row_shape ho
  exact ⟨a, cap, rfl, ⟨h1, h2⟩, hb⟩
theorem dc_crash_ok {w : World} {p bm room : Nat} {C : List CF} {O : Nat → Prop} (h : DC w p bm room C O) (ad : Option Addr) (ks : List (ByteArray × Int)) (n cp : Nat) (hn : ks.length = n) (hK : Kps w ad ks) (hKs : ∀ k ∈ ks, k.1.size ≤ maxLen) (hKl : ks.length ≤ 1000000) (hE : crE C ks = 0) (C' : List CF) (hC : C.map (cutV ks) = C') :
    Calls Try.prog 21 #[.pointer (some ⟨p, 0, none⟩), .slice ad n cp] w fun e w' => ∃ p' bm', e = .returned (.tuple #[.pointer (some ⟨p', 0, none⟩), .int .i64 0]) ∧ DC w' p' bm' room C' (fun k => w.heap.size ≤ k) ∧ Below w.heap.size w w' := by
  subst hC
  refine (c_crash h ad ks n cp hn hK hKs hKl).mono ?_
  rintro e w' ⟨hb, q, rfl, _, h0⟩
  obtain ⟨p', bm', rfl, hd⟩ := h0 hE
  exact ⟨p', bm', by rw [hE]; rfl, hd, hb⟩
theorem dc_crash_no {w : World} {p bm room : Nat} {C : List CF} {O : Nat → Prop} (h : DC w p bm room C O) (ad : Option Addr) (ks : List (ByteArray × Int)) (n cp : Nat) (hn : ks.length = n) (hK : Kps w ad ks) (hKs : ∀ k ∈ ks, k.1.size ≤ maxLen) (hKl : ks.length ≤ 1000000) (E : Int) (hE : (crE C ks : Int) = E) (hne : crE C ks ≠ 0) :
    Calls Try.prog 21 #[.pointer (some ⟨p, 0, none⟩), .slice ad n cp] w fun e w' => e = .returned (.tuple #[.pointer none, .int .i64 E]) ∧ Below w.heap.size w w' := by
  subst hE
  refine (c_crash h ad ks n cp hn hK hKs hKl).mono ?_
  rintro e w' ⟨hb, q, rfl, h0, _⟩
  rw [h0 hne]
  exact ⟨rfl, hb⟩
theorem kps_new (w : World) (ks : List (ByteArray × Int)) (cs : Array Value) (t : TypeId) (fr : Nat × Nat) (h : ∀ i k, ks[i]? = some k → cs[i * 2]? = some (.string k.1) ∧ cs[i * 2 + 1]? = some (.int .i64 k.2)) : Kps (w.alloc (.cells cs t fr)) (some ⟨w.heap.size, 0, none⟩) ks := fun i k hk => by
  obtain ⟨h1, h2⟩ := h i k hk
  exact ⟨w.heap.size, 0, rfl, by rw [cell_new, Nat.zero_add]; exact h1, by rw [cell_new, Nat.zero_add]; exact h2⟩
theorem kps_one (w : World) (s : ByteArray) (x : Int) (t : TypeId) (fr : Nat × Nat) : Kps (w.alloc (.cells #[.string s, .int .i64 x] t fr)) (some ⟨w.heap.size, 0, none⟩) [(s, x)] :=
  kps_new w _ _ t fr fun i k hk => by
    rcases i with _ | i
    · cases hk; exact ⟨rfl, rfl⟩
    · simp at hk
theorem kps_two (w : World) (s s2 : ByteArray) (x x2 : Int) (t : TypeId) (fr : Nat × Nat) : Kps (w.alloc (.cells #[.string s, .int .i64 x, .string s2, .int .i64 x2] t fr)) (some ⟨w.heap.size, 0, none⟩) [(s, x), (s2, x2)] :=
  kps_new w _ _ t fr fun i k hk => by
    rcases i with _ | _ | i
    · cases hk; exact ⟨rfl, rfl⟩
    · cases hk; exact ⟨rfl, rfl⟩
    · simp at hk
theorem kps_nil (w : World) (a : Option Addr) : Kps w a [] := fun i k hk => by simp at hk
theorem c_append_no {w : World} {p bm room : Nat} {C : List CF} {O : Nat → Prop} (h : DC w p bm room C O) (s : ByteArray) (hs : s.size ≤ maxLen) (ba : Option Addr) (bn bc : Nat) (hbn : bn ≤ 1099511627776) (E : Int) (hE : appE room C s bn = E) (hne : E ≠ 0) :
    Calls Try.prog 27 #[.pointer (some ⟨p, 0, none⟩), .string s, .slice ba bn bc] w fun e w' => e = .returned (.int .i64 E) ∧ Below w.heap.size w w' := by
  obtain ⟨L, h1, rfl, h3⟩ := h
  subst hE
  by_cases hm : mayB s = true
  · obtain ⟨f, ok, hf⟩ := at_file L s
    by_cases hr : room < (L.map fun f => f.bs.length).sum + bn
    · have e5 : appE room (L.map core) s bn = 5 := by unfold appE; rw [if_neg (by rw [hm]; simp), if_pos (by rw [← sum_core]; exact hr)]
      rw [e5]
      exact dappend_full h1 s hm ba bn bc hbn f ok hf (Or.inl hr)
    · have hnone : (cFind (L.map core) s).isNone = !ok := by
        rw [find_core]
        rcases hf.2 with ⟨e1, e2⟩ | ⟨e1, e2, _⟩ <;> rw [e1, e2] <;> rfl
      by_cases hw : ok = false ∧ L.length = 64
      · have e5 : appE room (L.map core) s bn = 5 := by unfold appE; rw [if_neg (by rw [hm]; simp), if_neg (by rw [← sum_core]; exact hr), if_pos (by rw [hnone, hw.1, List.length_map]; exact ⟨rfl, hw.2⟩)]
        rw [e5]
        exact dappend_full h1 s hm ba bn bc hbn f ok hf (Or.inr ⟨by omega, hw⟩)
      · refine absurd ?_ hne
        unfold appE; rw [if_neg (by rw [hm]; simp), if_neg (by rw [← sum_core]; exact hr), if_neg (by rw [hnone, List.length_map]; rintro ⟨x1, x2⟩; exact hw ⟨by simpa using x1, x2⟩)]
  · have hm' : mayB s = false := by simpa using hm
    have e2 : appE room (L.map core) s bn = 2 := by unfold appE; rw [if_pos hm']
    rw [e2]
    exact dappend_bad h1 s hs hm' ba bn bc
theorem c_rename_no {w : World} {p bm room : Nat} {C : List CF} {O : Nat → Prop} (h : DC w p bm room C O) (s to : ByteArray) (hs : s.size ≤ maxLen) (ht : to.size ≤ maxLen) (E : Int) (hE : (renE C s to : Int) = E) (hne : E ≠ 0) :
    Calls Try.prog 47 #[.pointer (some ⟨p, 0, none⟩), .string s, .string to] w fun e w' => e = .returned (.int .i64 E) ∧ Below w.heap.size w w' := by
  obtain ⟨L, h1, rfl, h3⟩ := h
  subst hE
  by_cases hm : mayB s = false ∨ mayB to = false
  · rw [show renE (L.map core) s to = 2 by unfold renE; rw [if_pos hm]]
    exact drename_bad h1 s to hs ht hm
  · cases hf : look L s with
    | none =>
      rw [show renE (L.map core) s to = 6 by unfold renE; rw [if_neg hm, if_pos (by rw [find_core, hf]; rfl)]]
      have hm1 : mayB s = true := by
        cases e : mayB s
        · exact absurd (Or.inl e) hm
        · rfl
      have hm2 : mayB to = true := by
        cases e : mayB to
        · exact absurd (Or.inr e) hm
        · rfl
      exact drename_no h1 s to hm1 hm2 hf
    | some f =>
      refine absurd ?_ hne
      rw [show renE (L.map core) s to = 0 by unfold renE; rw [if_neg hm, if_neg (by rw [find_core, hf]; simp)]]
      rfl
theorem row_cells {w : World} {base n : Nat} {e : TypeId} {v : Value} {xs : List Value} (h : w.ownsRow base e 1 v n xs) (hn : 0 < n) : ∃ g cap, v = .slice (some ⟨g, 0, none⟩) n cap ∧ base ≤ g ∧ ∀ k x, xs[k]? = some x → w.cell? ⟨g, k, none⟩ = some x := by
  rcases h.2 with ⟨_, h0⟩ | ⟨g, cap, cur, hv, hg, hc, h1, h2, h3, h4⟩
  · omega
  · refine ⟨g, cap, hv, hg, fun k x hx => ?_⟩
    have hk : k < xs.length := (List.getElem?_eq_some_iff.1 hx).1
    rw [← h4, List.getElem?_take] at hx
    split at hx
    · simp only [World.cell?, hc]
      simpa using hx
    · cases hx
theorem mk_run (n : Nat) (hn : n ≤ 1000000) (w : World) : (Instr.makeSlice 34 (.int .i64 (n : Int)) (.int .i64 (n : Int))).run Try.prog w = .ok (.slice (some ⟨w.heap.size, 0, none⟩) n n) (w.alloc (.cells (madeCells #[.int .u8 0] n) 5 (0, 0))) := by
  obtain ⟨i0, hi, hz0, hz1, hz2⟩ := info_parts eltB.inf
  have hr := run_make (P := Try.prog) w 34 5 i0 (.int .u8 0) Try.underlying34 hi hz0 .i64 .i64 n n (by omega) (Int.le_refl _) (by rw [hz2]; omega) (by omega)
  simp only [Int.toNat_natCast] at hr
  rw [hr, hz1]
  simp [Value.cells]
def kA : ByteArray := ⟨#[97]⟩
def kB : ByteArray := ⟨#[98]⟩
def kX : ByteArray := ⟨#[97, 32, 98]⟩
def kC : ByteArray := ⟨#[99]⟩
def xyz : List Int := [120, 121, 122]
def C1 : List CF := [(kA, xyz, 0)]
def C2 : List CF := [(kA, xyz, 3)]
def C3 : List CF := [(kA, [120, 121, 122, 117, 118], 3)]
def C4 : List CF := [(kB, [120, 121, 122, 117, 118], 3)]
theorem v_appX : appE 1024 [] kX 1 = 2 := by decide
theorem v_appXC : appC 1024 [] kX [120] = [] := by decide
theorem v_appA : appE 1024 [] kA 3 = 0 := by decide
theorem v_appAC : appC 1024 [] kA xyz = C1 := by decide
theorem v_readB : oneE C1 kB = 6 := by decide
theorem v_readBV : readV C1 kB = [] := by decide
theorem v_syncBC : syncC C1 kB = C1 := by decide
theorem v_syncA : oneE C1 kA = 0 := by decide
theorem v_syncAC : syncC C1 kA = C2 := by decide
theorem v_appU : appE 1024 C2 kA 2 = 0 := by decide
theorem v_appUC : appC 1024 C2 kA [117, 118] = C3 := by decide
theorem v_lastA : lastV C3 kA = 3 := by decide
theorem v_lastAE : oneE C3 kA = 0 := by decide
theorem v_crash1 : crE C3 [(kA, 1)] = 0 := by decide
theorem v_crash1C : C3.map (cutV [(kA, 1)]) = [(kA, [120, 121, 122, 117], 4)] := by decide
theorem v_readX : oneE [(kA, [120, 121, 122, 117], 4)] kA = 0 := by decide
theorem v_readXV : readV [(kA, [120, 121, 122, 117], 4)] kA = [120, 121, 122, 117] := by decide
theorem v_ren1 : renE C3 kA kB = 0 := by decide
theorem v_ren1C : renC C3 kA kB = C4 := by decide
theorem v_ren2 : renE C4 kA kB = 6 := by decide
theorem v_ren2C : renC C4 kA kB = C4 := by decide
theorem v_appC : appE 1024 C4 kC 1020 = 5 := by decide
theorem v_crash2 : crE C4 [(kB, -1)] = 2 := by decide
theorem v_crash3 : crE C4 [(kB, 1), (kB, 1)] = 2 := by decide
theorem v_crash4 : crE C4 [(kC, 1)] = 6 := by decide
theorem v_crash5 : crE C4 [] = 0 := by decide
theorem v_crash5C : C4.map (cutV []) = [(kB, xyz, 3)] := by decide
theorem v_readZ : oneE [(kB, xyz, 3)] kB = 0 := by decide
theorem v_readZV : readV [(kB, xyz, 3)] kB = xyz := by decide
theorem v_used : cSum C4 = 5 := by decide
theorem appC_same {room : Nat} {C : List CF} {s : ByteArray} {B : List Int} (h : appE room C s B.length ≠ 0) : appC room C s B = C := by unfold appC; rw [if_neg h]
end Go.Proofs.Ytbjhcbiihekceaa
