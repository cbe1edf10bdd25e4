/- Disks: Crash. -/
import Derived.Test.YtbjhcbiihekceaaDc6
namespace Go.Proofs.Ytbjhcbiihekceaa
open Go.ChangeShapes Go.WideShapes Go.ChangeAt Go.RowKit Go.Maps
set_option linter.unusedVariables false
set_option linter.unusedSimpArgs false
/-- So much of a file lasts behind a crash. -/
def cutM (ks : List (ByteArray × Int)) (f : Fil) : Nat := f.last + min (loose ks f.nm).toNat (f.bs.length - f.last)
def cutC (ks : List (ByteArray × Int)) (f : Fil) : ByteArray × List Int × Nat := (f.nm, f.bs.take (cutM ks f), cutM ks f)
theorem cutM_le (ks : List (ByteArray × Int)) {f : Fil} (h : f.last ≤ f.bs.length) : cutM ks f ≤ f.bs.length := by unfold cutM; omega
theorem core_cut (ks : List (ByteArray × Int)) (f : Fil) : core (cutF f (cutM ks f)) = cutC ks f := rfl
theorem cutM_core (ks : List (ByteArray × Int)) {f g : Fil} (h : core f = core g) : cutM ks f = cutM ks g ∧ cutC ks f = cutC ks g := by
  have h1 : f.nm = g.nm := congrArg (·.1) h
  have h2 : f.bs = g.bs := congrArg (·.2.1) h
  have h3 : f.last = g.last := congrArg (·.2.2) h
  have : cutM ks f = cutM ks g := by unfold cutM; rw [h1, h2, h3]
  exact ⟨this, by unfold cutC; rw [this, h1, h2]⟩
/-- What has been cut: just the files that are not left. -/
structure CutOf (ks : List (ByteArray × Int)) (left : Lit → Bool) (L Lc : List Fil) : Prop where
  mem : ∀ c, c ∈ Lc.map core ↔ ∃ f ∈ L, (if left f.key then core f else cutC ks f) = c
theorem has_key {L : List Fil} {f : Fil} (h : f ∈ L) : Maps.has (dOf L) f.key = true := by
  show Maps.has (dOf L) (.string f.nm.data.toList) = true
  rw [has_dOf, look, List.find?_isSome]
  exact ⟨f, h, by simp⟩
theorem CutOf.start (ks : List (ByteArray × Int)) (L : List Fil) : CutOf ks (Maps.has (dOf L)) L L := by
  refine ⟨fun c => ?_⟩
  rw [List.mem_map]
  exact ⟨fun ⟨f, hf, e⟩ => ⟨f, hf, by rw [has_key hf]; exact e⟩, fun ⟨f, hf, e⟩ => ⟨f, hf, by rw [has_key hf] at e; exact e⟩⟩
theorem key_nm {f g : Fil} (h : f.nm = g.nm) : f.key = g.key := by unfold Fil.key; rw [h]
theorem nm_key {f g : Fil} (h : f.key = g.key) : f.nm = g.nm := skey_inj h
theorem CutOf.step {ks : List (ByteArray × Int)} {left : Lit → Bool} {L Lc : List Fil} (h : CutOf ks left L Lc) (hp : L.Pairwise fun f g => f.key ≠ g.key) (hq : Lc.Pairwise fun f g => f.key ≠ g.key) {f : Fil} (hf : f ∈ Lc) (hl : left f.key = true) : CutOf ks (fun z => left z && !z.sameKey f.key) L (putL (cutF f (cutM ks f)) Lc) := by
  obtain ⟨g0, hg0, e0⟩ := (h.mem (core f)).1 (List.mem_map.2 ⟨f, hf, rfl⟩)
  have hn0 : g0.nm = f.nm := by
    have := congrArg (·.1) e0
    split at this <;> exact this
  have hk0 := key_nm hn0
  rw [hk0, hl, if_pos rfl] at e0
  have hs : ∀ g : Fil, g.key.sameKey f.key = decide (g.nm = f.nm) := fun g => key_same g f.nm
  refine ⟨fun c => ?_⟩
  rw [List.mem_map]
  constructor
  · rintro ⟨x, hx, rfl⟩
    rcases mem_putL.1 hx with rfl | ⟨hx, hne⟩
    · refine ⟨g0, hg0, ?_⟩
      rw [hs g0]
      simp [hn0]
      exact (cutM_core ks e0).2
    · obtain ⟨g, hg, e⟩ := (h.mem (core x)).1 (List.mem_map.2 ⟨x, hx, rfl⟩)
      have hn : g.nm = x.nm := by
        have := congrArg (·.1) e
        split at this <;> exact this
      refine ⟨g, hg, ?_⟩
      rw [hs g]
      have : ¬ g.nm = f.nm := fun e2 => hne (hn ▸ e2)
      simp [this]
      exact e
  · rintro ⟨g, hg, rfl⟩
    rw [hs g]
    by_cases e : g.nm = f.nm
    · refine ⟨cutF f (cutM ks f), mem_putL.2 (Or.inl rfl), ?_⟩
      have hgg : g = g0 := by
        apply Classical.byContradiction
        intro hne
        exact pair_of (fun h => Ne.symm h) hp hg hg0 hne (key_nm (e.trans hn0.symm))
      subst hgg
      simp [e]
      exact (cutM_core ks e0).2.symm
    · obtain ⟨x, hx, e2⟩ := List.mem_map.1 ((h.mem _).2 ⟨g, hg, rfl⟩)
      have hn : x.nm = g.nm := by
        have := congrArg (·.1) e2
        split at this <;> exact this
      refine ⟨x, mem_putL.2 (Or.inr ⟨hx, fun e3 => e (hn ▸ e3)⟩), ?_⟩
      simp [e]
      exact e2
theorem CutOf.done {ks : List (ByteArray × Int)} {left : Lit → Bool} {L Lc : List Fil} (h : CutOf ks left L Lc) (h0 : ∀ kl, left kl = false) : ∀ c, c ∈ Lc.map core ↔ c ∈ L.map (cutC ks) := fun c => by
  rw [h.mem, List.mem_map]
  simp [h0]
theorem cut_eq {W W' : World} {p bm p' bm' room room' : Nat} {ks : List (ByteArray × Int)} {L L0 Lc : List Fil} (hc : Dk W p bm room Lc) (hl : Dk W' p' bm' room' L) (h0 : L0.map core = L.map core) (h : ∀ c, c ∈ Lc.map core ↔ c ∈ L0.map (cutC ks)) : Lc.map core = L.map (cutC ks) := by
  have e : ∀ A B : List Fil, A.map core = B.map core → A.map (cutC ks) = B.map (cutC ks) := fun A => by
    induction A with
    | nil => intro B hB; cases B with
      | nil => rfl
      | cons b r => cases hB
    | cons a s ih => intro B hB; cases B with
      | nil => cases hB
      | cons b r =>
        simp only [List.map_cons, List.cons.injEq] at hB ⊢
        exact ⟨(cutM_core ks hB.1).2, ih r hB.2⟩
  rw [e L0 L h0] at h
  refine sorted_ext (R := fun c d : ByteArray × List Int × Nat => bytesBefore c.1.data.toList d.1.data.toList = true) (fun a => by rw [Go.WideAt.bytes_irrefl]; simp) (fun a b c h1 h2 => bytes_trans _ _ _ h1 h2) (core_rise hc) ?_ h
  rw [List.pairwise_map]
  exact hl.rise.imp fun {f g} hb => hb
theorem loose_nn {ks : List (ByteArray × Int)} (h : KOk ks) (s : ByteArray) : 0 ≤ loose ks s := by
  unfold loose
  cases hx : kFind ks s with
  | none => exact Int.le_refl _
  | some x =>
    obtain ⟨k, hk, _, e⟩ := kFind_some hx
    show 0 ≤ x
    rw [← e]; exact (h.each k hk).2
/-- How a crash ends. -/
def CrashEnd (w : World) (room : Nat) (L : List Fil) (ks : List (ByteArray × Int)) (e : Ending) (w' : World) : Prop :=
  Below w.heap.size w w' ∧
  ((¬ KOk ks ∧ e = .returned (.tuple #[.pointer none, .int .i64 2])) ∨
   (KOk ks ∧ (∃ k ∈ ks, look L k.1 = none) ∧ e = .returned (.tuple #[.pointer none, .int .i64 6])) ∨
   (KOk ks ∧ (∀ k ∈ ks, (look L k.1).isSome = true) ∧ ∃ p' bm' Lc, e = .returned (.tuple #[.pointer (some ⟨p', 0, none⟩), .int .i64 0]) ∧ Dk w' p' bm' room Lc ∧ Lc.map core = L.map (cutC ks) ∧ ∀ k, Own p' bm' Lc k → w.heap.size ≤ k))
theorem KOk.not_at {ks : List (ByteArray × Int)} {j : Nat} {k : ByteArray × Int} (hk : ks[j]? = some k) (h : ¬ (kFind (ks.take j) k.1 = none ∧ mayB k.1 = true ∧ 0 ≤ k.2)) : ¬ KOk ks := fun hok => by
  have := hok.sub (j + 1)
  rw [take_snoc hk] at this
  exact h (KOk.snoc.1 this).2
theorem KOk.at {ks : List (ByteArray × Int)} {j : Nat} {k : ByteArray × Int} (hk : ks[j]? = some k) (h0 : KOk (ks.take j)) (h1 : kFind (ks.take j) k.1 = none) (h2 : mayB k.1 = true) (h3 : 0 ≤ k.2) : KOk (ks.take (j + 1)) := by
  rw [take_snoc hk]
  exact KOk.snoc.2 ⟨h0, h1, h2, h3⟩
set_option maxRecDepth 8192 in
set_option maxHeartbeats 4000000 in
/-- Crash (21). -/
theorem dcrash_law {w : World} {p bm room : Nat} {L : List Fil} (h : Dk w p bm room L) (ad : Option Addr) (ks : List (ByteArray × Int)) (cp : Nat) (hK : Kps w ad ks) (hKs : ∀ k ∈ ks, k.1.size ≤ maxLen) (hKl : ks.length ≤ 1000000) :
    Calls Try.prog 21 #[.pointer (some ⟨p, 0, none⟩), .slice ad ks.length cp] w (CrashEnd w room L ks) := by
  have HH := Lib.hid h
  have HK := Lib.hid hK
  have HS := Lib.hid hKs
  have HC1 := Lib.hid (fun W (b : Below w.heap.size w W) => (h.below b).c1)
  obtain ⟨n, hn⟩ : ∃ n, ks.length = n := ⟨_, rfl⟩
  have HN := Lib.hid hn
  rw [hn] at hKl ⊢
  clear h hK hKs hn
  have hmm := @run_makeMap Try.prog
  go_enter Try.func21, Try.ntmps21
  go_wp2_with (go_at_call 58; refine (dnone_law HH.out).mono ?_; rintro e w' ⟨rfl, rfl⟩)
  clear hmm
  go_loopw [22] (fun i wr => ∃ (j : Nat) (D : DataW Value), j ≤ n ∧ i = .int .i64 j ∧ KOk (ks.take j) ∧ LooseOf D (ks.take j) ∧ wr.ownsMap Try.prog 9 RI w.heap.size j D ∧ Below w.heap.size w wr) (fun i _ => n - (intOf i).toNat)
  case atStart => exact ⟨0, .map [], Nat.zero_le _, rfl, KOk.nil, LooseOf.nil, World.ownsMap_made w Try.prog 9 RI, bl1 _ _⟩
  case round =>
    obtain ⟨j, D, hj, rfl, hok, hD, hm, hb⟩ := hrel
    have HOK := Lib.hid hok
    have HD := Lib.hid hD
    have HM := Lib.hid hm
    have HB := Lib.hid hb
    clear hok hD hm hb
    by_cases hlt : j < n
    · obtain ⟨k, hkj⟩ : ∃ k, ks[j]? = some k := ⟨_, List.getElem?_eq_getElem (by rw [HN.out]; exact hlt)⟩
      obtain ⟨kb, ko, rfl, c1, c2⟩ := (HK.out.below HB.out) j k hkj
      have hks := HS.out k (List.mem_of_getElem? hkj)
      have HKJ := Lib.hid hkj
      clear hkj
      have hj2 : (j : Int) < (n : Int) := by omega
      obtain ⟨W6, hW6⟩ : ∃ W6, wr.alloc (.cells #[.string k.1, .int .i64 k.2] 101) = W6 := ⟨_, rfl⟩
      have hb6 : Below wr.heap.size wr W6 := by rw [← hW6]; exact bl1 _ _
      have hbx : BoxC W6 wr.heap.size #[.string k.1, .int .i64 k.2] 101 := by rw [← hW6]; exact BoxC.new _ _ _
      have hm6 : W6.ownsMap Try.prog 9 RI w.heap.size j D := by rw [← hW6]; exact HM.out.alloc _
      have x0 : W6.cell? ⟨wr.heap.size, 0, none⟩ = some (.string k.1) := hbx.cell 0
      have x1 : W6.cell? ⟨wr.heap.size, 1, none⟩ = some (.int .i64 k.2) := hbx.cell 1
      have HMY := Lib.hid (may_law k.1 hks W6)
      have hlk := loose_ok hm6 HD.out k.1 hks
      have HM6 := Lib.hid hm6
      have HB6 := Lib.hid (step_below HB.out hb6)
      clear hb6 hbx hm6
      obtain ⟨kn, kl⟩ := k
      simp only at *
      by_cases h1 : kFind (ks.take j) kn = none
      · by_cases h2 : mayB kn = true
        · by_cases h3 : kl < 0
          · rw [h1] at hlk
            have HBAD := Lib.hid (KOk.not_at HKJ.out (fun ⟨_, _, h⟩ => by simp only at h; omega))
            have H2 := Lib.hid h2
            clear h1 h2
            go_wp2_with (go_at_call 61; refine HMY.out.mono ?_; rintro e w' ⟨rfl, rfl⟩; rw [H2.out])
            go_ret2
            exact ⟨HB6.out, Or.inl ⟨HBAD.out, rfl⟩⟩
          · rw [h1] at hlk
            obtain ⟨w8, hrun, hm8, ht⟩ := HM6.out.store law9 Try.underlying121 (by unfold maxLen; omega) (key_of kn hks) (RI_int kl)
            have HG := Lib.hid (KOk.at HKJ.out HOK.out h1 h2 (by simp only; omega))
            have HLO := Lib.hid (show LooseOf (D.put (skey kn) (.held (.int .i64 kl))) (ks.take (j + 1)) by rw [take_snoc HKJ.out]; exact HD.out.snoc (k := (kn, kl)) HM.out.isMap hks h1)
            have HM8 := Lib.hid hm8
            have HB8 := Lib.hid (Off.below HB6.out (Off.of_map (S := fun k => k = w.heap.size) ht.grown rfl) (by have := HM6.out.lt; have := HB6.out.size; omega) (fun k hk => by rw [hk]; exact Nat.le_refl _))
            have H2 := Lib.hid h2
            clear h1 h2 hm8 ht
            go_wp2_with (go_at_call 61; refine HMY.out.mono ?_; rintro e w' ⟨rfl, rfl⟩; rw [H2.out])
            go_roundw
            case rel => exact ⟨j + 1, _, by omega, by go_num, HG.out, HLO.out, HM8.out, HB8.out⟩
            case measure => simp [intOf]; omega
        · have h2' : mayB kn = false := by simpa using h2
          rw [h1] at hlk
          have HBAD := Lib.hid (KOk.not_at HKJ.out (fun ⟨_, h, _⟩ => h2 h))
          have H2 := Lib.hid h2'
          clear h1 h2 h2'
          go_wp2_with (go_at_call 61; refine HMY.out.mono ?_; rintro e w' ⟨rfl, rfl⟩; rw [H2.out])
          go_ret2
          exact ⟨HB6.out, Or.inl ⟨HBAD.out, rfl⟩⟩
      · obtain ⟨x, hx⟩ := Option.ne_none_iff_exists'.1 h1
        rw [hx] at hlk
        have HBAD := Lib.hid (KOk.not_at HKJ.out (fun ⟨h, _⟩ => h1 h))
        clear h1 hx
        go_wp2_with fail
        go_ret2
        exact ⟨HB6.out, Or.inl ⟨HBAD.out, rfl⟩⟩
    · have hj2 : ¬ (j : Int) < (n : Int) := by omega
      obtain rfl : j = n := by omega
      generalize wr = wa at *
      have ht : ks.take j = ks := List.take_of_length_le (by rw [HN.out]; omega)
      rw [ht] at HOK HD
      clear ht hj hlt
      have HC2 := Lib.hid (show wa.cell? ⟨p, 1, none⟩ = _ from HC1.out wa HB.out)
      have HDW := Lib.hid (HH.out.below HB.out)
      go_wp2_with (first
        | (at_range; refine wpList_range_own _ rfl _ 121 rfl 9 3 law9 Try.underlying121 RI w.heap.size j D rfl HM.out ?_; intro w0 hrg0 hg0 hs0))
      have HR := Lib.hid hrg0
      have HG := Lib.hid (step_below HB.out (show Below wa.heap.size wa w0 from ⟨hg0.os, hg0.tape, hg0.output, hg0.size, fun k hk => hg0.block k hk (by simp)⟩))
      have HSZ := Lib.hid (show wa.heap.size < w0.heap.size by rw [hs0]; omega)
      clear hrg0 hg0 hs0
      clear hj2
      go_loopw [53] (fun _ wq => ∃ (left : Lit → Bool) (cnt : Nat), wq.ranges Try.prog 9 RI w.heap.size wa.heap.size j D left cnt ∧ Below w.heap.size w wq ∧ wa.heap.size < wq.heap.size ∧ ∀ s x, kFind ks s = some x → left (skey s) = false → (look L s).isSome = true)
        (fun _ wq => wq.rangeLeft w.heap.size wa.heap.size)
      case atStart =>
        refine ⟨_, _, HR.out, HG.out, HSZ.out, fun s x hx hl => ?_⟩
        rw [HD.out.has, hx] at hl; cases hl
      case round =>
        obtain ⟨left, cnt, hrg, hgw, hsz, hseen⟩ := hrel
        have HRG := Lib.hid hrg
        have HB2 := Lib.hid hgw
        have HSEEN := Lib.hid hseen
        clear hgw hseen
        go_wp2_with (first
          | (at_next; refine next_kept rfl _ rfl w.heap.size wa.heap.size j D ks HD.out left cnt rfl hrg ?_ ?_)
          | go_in)
        · intro _ hl0
          clear hrg
          have HALL := Lib.hid (show ∀ k ∈ ks, (look L k.1).isSome = true from fun k hk => by
            cases hx : kFind ks k.1 with
            | none => exact absurd rfl (kFind_none.1 hx k hk)
            | some x => exact HSEEN.out k.1 x hx (hl0 _))
          clear hl0
          have HM2 := Lib.hid HRG.out.owns
          clear hsz
          generalize wr = wb at *
          go_wp2_with (first
            | (go_at_call 55; refine (dcopy_same (HH.out.below HB2.out)).mono ?_; rintro e wc ⟨Lc0, rfl, hd, hcore, how, hbc⟩; have HDC := Lib.hid hd; have HCO := Lib.hid hcore; have HOW := Lib.hid how; have HBC := Lib.hid hbc; have y1 : wc.cell? ⟨wb.heap.size + 1, 1, none⟩ = some (.map (some wb.heap.size)) := hd.c1; clear hd hcore how hbc)
            | (at_range; refine wpList_range_own _ rfl _ 92 rfl 9 118 law9 Try.underlying92 RF wb.heap.size Lc0.length (dOf Lc0) rfl HDC.out.map ?_; intro w0 hrg0 hg0 hs0))
          have hbd : Below wc.heap.size wc w0 := ⟨hg0.os, hg0.tape, hg0.output, hg0.size, fun k hk => hg0.block k hk (by simp)⟩
          have HR3 := Lib.hid hrg0
          have HD3 := Lib.hid (HDC.out.below hbd)
          have HBW := Lib.hid (step_below (step_below HB2.out HBC.out) hbd)
          have HM3 := Lib.hid ((Off.of (S := fun _ => False) (step_below HBC.out hbd)).map HM2.out (fun h => h))
          have HS3 := Lib.hid (show wc.heap.size < w0.heap.size by rw [hs0]; omega)
          clear hrg0 hg0 hs0 hbd y1
          go_frame
          go_loopw [75] (fun _ wq => ∃ (left : Lit → Bool) (cnt : Nat) (Lc : List Fil), wq.ranges Try.prog 9 RF wb.heap.size wc.heap.size Lc0.length (dOf Lc) left cnt ∧ Dk wq (wb.heap.size + 1) wb.heap.size room Lc ∧ CutOf ks left Lc0 Lc ∧ Below w.heap.size w wq ∧ (∀ k, Own (wb.heap.size + 1) wb.heap.size Lc k → wb.heap.size ≤ k ∧ k < wc.heap.size) ∧ wc.heap.size < wq.heap.size ∧ wq.ownsMap Try.prog 9 RI w.heap.size j D)
            (fun _ wq => wq.rangeLeft wb.heap.size wc.heap.size)
          case atStart => exact ⟨_, _, Lc0, HR3.out, HD3.out, CutOf.start ks Lc0, HBW.out, fun k hk => ⟨HOW.out k hk, HDC.out.lt hk⟩, HS3.out, HM3.out⟩
          case round =>
            obtain ⟨left, cnt, Lc, hrg, hdk, hcut, hbq, hown, hsq, hmq⟩ := hrel
            have HRQ := Lib.hid hrg
            have HDQ := Lib.hid hdk
            have HCQ := Lib.hid hcut
            have HBQ := Lib.hid hbq
            have HOQ := Lib.hid hown
            have HMQ := Lib.hid hmq
            clear hdk hcut hbq hown hmq
            go_wp2_with (first
              | (at_next; refine next_disk rfl _ rfl wb.heap.size wc.heap.size Lc0.length Lc left cnt rfl hrg ?_ ?_)
              | go_in)
            · intro _ hl0
              clear hrg
              have HE := Lib.hid hl0
              clear hl0
              go_wp2
              go_ret2
              refine ⟨HBQ.out, Or.inr (Or.inr ⟨HOK.out, HALL.out, _, _, Lc, rfl, HDQ.out, ?_, fun k hk => ?_⟩)⟩
              · exact cut_eq HDQ.out HH.out HCO.out (HCQ.out.done HE.out)
              · have := (HOQ.out k hk).1
                have := HB2.out.size
                omega
            · intro f w1 cnt1 hfm hlx hrg1 hlt1 hg1 hs1 hen
              have hdk1 : Dk w1 (wb.heap.size + 1) wb.heap.size room Lc := HDQ.out.off (S := fun k => k = wc.heap.size) ⟨hg1.os, hg1.tape, hg1.output, hg1.size, fun k hk hn => hg1.block k hk (fun e => hn (Option.some.inj e))⟩ fun k hk e => by have := (HOQ.out k hk).2; have e : k = wc.heap.size := e; omega
              have hb1 : Below w.heap.size w w1 := HBQ.out.grown hg1 (by have := HBQ.out.size; omega) (fun k hk => by cases hk; have := HB2.out.size; have := HBC.out.size; omega)
              have hm1 : w1.ownsMap Try.prog 9 RI w.heap.size j D := HMQ.out.kept hg1 (fun e => by injection e with e; have := HM2.out.lt; have := HBC.out.size; omega)
              have hfv : f.v = .agg #[.slice f.ad f.bs.length f.cap, .int .i64 f.last] := rfl
              rw [hfv] at hen ⊢
              have hsz1 : wr.heap.size ≤ w1.heap.size := by omega
              have hlen : f.bs.length ≤ 1048576 := Nat.le_trans (le_sum hfm) (Nat.le_trans hdk1.ok.used hdk1.hi)
              have hlast : f.last ≤ f.bs.length := hdk1.ok.lasts f hfm
              have hlk := loose_at (hm1.alloc (.cells #[.slice f.ad f.bs.length f.cap, .int .i64 f.last] 118)) HD.out f.nm (may_size (hdk1.ok.nms f hfm))
              have hlo : 0 ≤ loose ks f.nm := loose_nn HOK.out f.nm
              have hmm : cutM ks f = f.last + min (loose ks f.nm).toNat (f.bs.length - f.last) := rfl
              have hml := cutM_le ks hlast
              have HCS := Lib.hid (HCQ.out.step HDC.out.apart hdk1.apart hfm hlx)
              have HFM := Lib.hid hfm
              obtain ⟨W6, hW6⟩ : ∃ W6, w1.alloc (.cells #[.slice f.ad f.bs.length f.cap, .int .i64 (cutM ks f)] 118) = W6 := ⟨_, rfl⟩
              have hb6 : Below w1.heap.size w1 W6 := by rw [← hW6]; exact bl1 _ _
              have hbx : BoxC W6 w1.heap.size #[.slice f.ad f.bs.length f.cap, .int .i64 (cutM ks f)] 118 := by rw [← hW6]; exact BoxC.new _ _ _
              have hs6 : w1.heap.size < W6.heap.size := by rw [← hW6]; simp
              have hr6 : W6.ranges Try.prog 9 RF wb.heap.size wc.heap.size Lc0.length (dOf Lc) (fun z => left z && !z.sameKey f.key) cnt1 := by rw [← hW6]; exact hrg1.alloc _
              have hd6 := hdk1.below hb6
              have HD6 := Lib.hid hd6
              have HM6 := Lib.hid (show W6.ownsMap Try.prog 9 RI w.heap.size j D by rw [← hW6]; exact hm1.alloc _)
              have HB6 := Lib.hid (step_below hb1 hb6)
              have hwb : wb.heap.size + 1 < w1.heap.size := hdk1.box.lt
              have F7 := Lib.hid (fun X (o : Off (fun k => k = wb.heap.size) W6 X) => (⟨(o.box hd6.box (fun e => by have e : wb.heap.size + 1 = wb.heap.size := e; omega)).cell 1, (o.box hbx (fun e => by have e : w1.heap.size = wb.heap.size := e; omega)).cell 0, (o.box hbx (fun e => by have e : w1.heap.size = wb.heap.size := e; omega)).cell 1⟩ : X.cell? ⟨wb.heap.size + 1, 1, none⟩ = some (.map (some wb.heap.size)) ∧ X.cell? ⟨w1.heap.size, 0, none⟩ = some (.slice f.ad f.bs.length f.cap) ∧ X.cell? ⟨w1.heap.size, 1, none⟩ = some (.int .i64 (cutM ks f))))
              have hcap : f.bs.length ≤ f.cap := (hd6.rows f hfm).ls.le
              have hmi : (f.last : Int) + min (loose ks f.nm) ((f.bs.length : Int) - (f.last : Int)) = (cutM ks f : Int) := by rw [hmm]; omega
              obtain ⟨w8, hrun, hX1, hX2, hX3⟩ := crash_step (hd6.below ((Below.refl _ _).drew)) (show W6.drew.ranges Try.prog 9 RF wb.heap.size wc.heap.size Lc0.length (dOf Lc) (fun z => left z && !z.sameKey f.key) cnt1 from hr6) (by have := HDC.out.ok.few; unfold maxLen; omega) hfm hml
              have HX := Lib.hid (And.intro hX1 (And.intro ((Off.of (S := fun k => k = wb.heap.size) ((Below.refl W6.heap.size W6).drew)).trans hX2) hX3))
              clear hX1 hX2 hX3
              clear hrg hrg1 hg1 hs1 hdk1 hb1 hm1 hfv hb6 hbx hr6 hd6 hfm hlx hwb hmm
              go_wp2
              try rw [hmi]
              try rw [hW6]
              have hmc : cutM ks f ≤ f.cap := Nat.le_trans hml hcap
              clear hW6 hmi hlk hen
              refine wp_region_held_drew (S := (fun X => Off (fun k => k = wb.heap.size) W6 X)) (by kernel_rfl) (Off.of ((Below.refl _ _).drew)) (fun hHeld => ?_)
              refine wpAnyH_take (i := 0) (oi := { dst := some 94, op := Op.move (Operand.tmp 14), type := 23, pos := "disk.go:181", after := #[], guard := none }) (v := ?_) rfl (by kernel_rfl) (by kernel_rfl) (by kernel_rfl) (fun _ _ _ h => h) (Or.inl ⟨by rfl, ?_⟩) (by assumption) ?_
              rotate_left
              · intro W hSw; go_simp; try with_reducible rfl
              try simp only [Act.put, List.setIfInBounds_toArray, List.set_cons_zero, List.set_cons_succ]
              refine wpAnyH_take (i := 1) (oi := { dst := some 95, op := Op.nilCheck (Operand.tmp 94), type := 0, pos := "disk.go:181", after := #[{ on := 0, ground := Ground.data }], guard := none }) (v := ?_) rfl (by kernel_rfl) (by kernel_rfl) (by kernel_rfl) (fun _ _ _ h => h) (Or.inl ⟨by rfl, ?_⟩) (by assumption) ?_
              rotate_left
              · intro W hSw; go_simp; try with_reducible rfl
              try simp only [Act.put, List.setIfInBounds_toArray, List.set_cons_zero, List.set_cons_succ]
              refine wpAnyH_take (i := 2) (oi := { dst := some 96, op := Op.fieldAddr 94 (Operand.tmp 95) 1, type := 0, pos := "disk.go:181", after := #[{ on := 1, ground := Ground.data }], guard := none }) (v := ?_) rfl (by kernel_rfl) (by kernel_rfl) (by kernel_rfl) (fun _ _ _ h => h) (Or.inl ⟨by rfl, ?_⟩) (by assumption) ?_
              rotate_left
              · intro W hSw; go_simp; try with_reducible rfl
              try simp only [Act.put, List.setIfInBounds_toArray, List.set_cons_zero, List.set_cons_succ]
              refine wpAnyH_take (i := 3) (oi := { dst := some 97, op := Op.load 92 (Operand.tmp 96), type := 92, pos := "disk.go:181", after := #[{ on := 2, ground := Ground.data }], guard := none }) (v := ?_) rfl (by kernel_rfl) (by kernel_rfl) (by kernel_rfl) (fun _ _ _ h => h) (Or.inl ⟨by rfl, ?_⟩) (by assumption) ?_
              rotate_left
              · intro W hSw; obtain ⟨a0, a1, a2⟩ := F7.out W hSw; go_simp; try with_reducible rfl
              try simp only [Act.put, List.setIfInBounds_toArray, List.set_cons_zero, List.set_cons_succ]
              refine wpAnyH_take (i := 4) (oi := { dst := some 98, op := Op.move (Operand.tmp 15), type := 9, pos := "disk.go:181", after := #[], guard := none }) (v := ?_) rfl (by kernel_rfl) (by kernel_rfl) (by kernel_rfl) (fun _ _ _ h => h) (Or.inl ⟨by rfl, ?_⟩) (by assumption) ?_
              rotate_left
              · intro W hSw; go_simp; try with_reducible rfl
              try simp only [Act.put, List.setIfInBounds_toArray, List.set_cons_zero, List.set_cons_succ]
              refine wpAnyH_take (i := 5) (oi := { dst := some 99, op := Op.fieldAddr 118 (Operand.tmp 16) 0, type := 0, pos := "disk.go:181", after := #[], guard := none }) (v := ?_) rfl (by kernel_rfl) (by kernel_rfl) (by kernel_rfl) (fun _ _ _ h => h) (Or.inl ⟨by rfl, ?_⟩) (by assumption) ?_
              rotate_left
              · intro W hSw; go_simp; try with_reducible rfl
              try simp only [Act.put, List.setIfInBounds_toArray, List.set_cons_zero, List.set_cons_succ]
              refine wpAnyH_take (i := 6) (oi := { dst := some 100, op := Op.load 34 (Operand.tmp 99), type := 34, pos := "disk.go:181", after := #[{ on := 5, ground := Ground.data }], guard := none }) (v := ?_) rfl (by kernel_rfl) (by kernel_rfl) (by kernel_rfl) (fun _ _ _ h => h) (Or.inl ⟨by rfl, ?_⟩) (by assumption) ?_
              rotate_left
              · intro W hSw; obtain ⟨a0, a1, a2⟩ := F7.out W hSw; go_simp; try with_reducible rfl
              try simp only [Act.put, List.setIfInBounds_toArray, List.set_cons_zero, List.set_cons_succ]
              refine wpAnyH_take (i := 7) (oi := { dst := some 101, op := Op.fieldAddr 118 (Operand.tmp 16) 1, type := 0, pos := "disk.go:181", after := #[], guard := none }) (v := ?_) rfl (by kernel_rfl) (by kernel_rfl) (by kernel_rfl) (fun _ _ _ h => h) (Or.inl ⟨by rfl, ?_⟩) (by assumption) ?_
              rotate_left
              · intro W hSw; go_simp; try with_reducible rfl
              try simp only [Act.put, List.setIfInBounds_toArray, List.set_cons_zero, List.set_cons_succ]
              refine wpAnyH_take (i := 8) (oi := { dst := some 102, op := Op.load 3 (Operand.tmp 101), type := 3, pos := "disk.go:181", after := #[{ on := 7, ground := Ground.data }], guard := none }) (v := ?_) rfl (by kernel_rfl) (by kernel_rfl) (by kernel_rfl) (fun _ _ _ h => h) (Or.inl ⟨by rfl, ?_⟩) (by assumption) ?_
              rotate_left
              · intro W hSw; obtain ⟨a0, a1, a2⟩ := F7.out W hSw; go_simp; try with_reducible rfl
              try simp only [Act.put, List.setIfInBounds_toArray, List.set_cons_zero, List.set_cons_succ]
              refine wpAnyH_take (i := 9) (oi := { dst := some 103, op := Op.fieldAddr 118 (Operand.tmp 16) 1, type := 0, pos := "disk.go:181", after := #[], guard := none }) (v := ?_) rfl (by kernel_rfl) (by kernel_rfl) (by kernel_rfl) (fun _ _ _ h => h) (Or.inl ⟨by rfl, ?_⟩) (by assumption) ?_
              rotate_left
              · intro W hSw; go_simp; try with_reducible rfl
              try simp only [Act.put, List.setIfInBounds_toArray, List.set_cons_zero, List.set_cons_succ]
              refine wpAnyH_take (i := 10) (oi := { dst := some 104, op := Op.load 3 (Operand.tmp 103), type := 3, pos := "disk.go:181", after := #[{ on := 9, ground := Ground.data }], guard := none }) (v := ?_) rfl (by kernel_rfl) (by kernel_rfl) (by kernel_rfl) (fun _ _ _ h => h) (Or.inl ⟨by rfl, ?_⟩) (by assumption) ?_
              rotate_left
              · intro W hSw; obtain ⟨a0, a1, a2⟩ := F7.out W hSw; go_simp; try with_reducible rfl
              try simp only [Act.put, List.setIfInBounds_toArray, List.set_cons_zero, List.set_cons_succ]
              refine wpAnyH_take (i := 11) (oi := { dst := some 105, op := Op.slice 34 (Operand.tmp 100) none (some (Operand.tmp 102)) (some (Operand.tmp 104)), type := 34, pos := "disk.go:181", after := #[{ on := 6, ground := Ground.data }, { on := 8, ground := Ground.data }, { on := 10, ground := Ground.data }], guard := none }) (v := ?_) rfl (by kernel_rfl) (by kernel_rfl) (by kernel_rfl) (fun _ _ _ h => h) (Or.inl ⟨by rfl, ?_⟩) (by assumption) ?_
              rotate_left
              · intro W hSw; go_simp; try with_reducible rfl
              try simp only [Act.put, List.setIfInBounds_toArray, List.set_cons_zero, List.set_cons_succ]
              refine wpAnyH_take (i := 12) (oi := { dst := some 106, op := Op.fieldAddr 118 (Operand.tmp 16) 1, type := 0, pos := "disk.go:181", after := #[], guard := none }) (v := ?_) rfl (by kernel_rfl) (by kernel_rfl) (by kernel_rfl) (fun _ _ _ h => h) (Or.inl ⟨by rfl, ?_⟩) (by assumption) ?_
              rotate_left
              · intro W hSw; go_simp; try with_reducible rfl
              try simp only [Act.put, List.setIfInBounds_toArray, List.set_cons_zero, List.set_cons_succ]
              refine wpAnyH_take (i := 13) (oi := { dst := some 107, op := Op.load 3 (Operand.tmp 106), type := 3, pos := "disk.go:181", after := #[{ on := 12, ground := Ground.data }], guard := none }) (v := ?_) rfl (by kernel_rfl) (by kernel_rfl) (by kernel_rfl) (fun _ _ _ h => h) (Or.inl ⟨by rfl, ?_⟩) (by assumption) ?_
              rotate_left
              · intro W hSw; obtain ⟨a0, a1, a2⟩ := F7.out W hSw; go_simp; try with_reducible rfl
              try simp only [Act.put, List.setIfInBounds_toArray, List.set_cons_zero, List.set_cons_succ]
              refine wpAnyH_take (i := 14) (oi := { dst := some 108, op := Op.build 118 #[(0, Operand.tmp 105), (1, Operand.tmp 107)], type := 118, pos := "disk.go:181", after := #[{ on := 11, ground := Ground.data }, { on := 13, ground := Ground.data }], guard := none }) (v := ?_) rfl (by kernel_rfl) (by kernel_rfl) (by kernel_rfl) (fun _ _ _ h => h) (Or.inl ⟨by rfl, ?_⟩) (by assumption) ?_
              rotate_left
              · intro W hSw; go_simp; try with_reducible rfl
              try simp only [Act.put, List.setIfInBounds_toArray, List.set_cons_zero, List.set_cons_succ]
              refine wpAnyH_ready (rs := [15]) (by kernel_rfl) (by simp) ?_
              refine AllReadyH.cons (o := { dst := none, op := Op.mapUpdate 92 (Operand.tmp 97) (Operand.tmp 98) (Operand.tmp 108), type := 0, pos := "disk.go:181", after := #[{ on := 3, ground := Ground.data }, { on := 4, ground := Ground.data }, { on := 14, ground := Ground.data }, { on := 0, ground := Ground.phase }, { on := 1, ground := Ground.phase }, { on := 2, ground := Ground.phase }, { on := 3, ground := Ground.phase }, { on := 4, ground := Ground.phase }, { on := 5, ground := Ground.phase }, { on := 6, ground := Ground.phase }, { on := 7, ground := Ground.phase }, { on := 8, ground := Ground.phase }, { on := 9, ground := Ground.phase }, { on := 10, ground := Ground.phase }, { on := 11, ground := Ground.phase }, { on := 12, ground := Ground.phase }, { on := 13, ground := Ground.phase }, { on := 14, ground := Ground.phase }], guard := none }) rfl (fun K hK => ?_) AllReadyH.nil
              go_simp
              refine hK.out _ _ (HX.out.2.1) (fun hHeldn => ?_)
              clear hK K hHeld; have hHeld := hHeldn; clear hHeldn
              try simp only [Act.put, List.setIfInBounds_toArray, List.set_cons_zero, List.set_cons_succ]
              refine wpAnyH_done (by kernel_rfl) ?_ _
              skip
              have HH8 := Lib.hid hHeld
              clear hHeld hrun
              go_wp2
              go_roundw
              case rel =>
                refine ⟨_, cnt1, putL (cutF f (cutM ks f)) Lc, HX.out.1, HX.out.2.2, HCS.out, Off.below HB6.out HX.out.2.1 (HB6.out.size) (fun k hk => by rw [hk]; exact HB2.out.size), fun k hk => ?_, by have := HX.out.2.1.size; omega, HX.out.2.1.map HM6.out (fun e => by have := HM2.out.lt; omega)⟩
                rcases hk with e | e | ⟨g, hg, e⟩
                · exact HOQ.out k (Or.inl e)
                · exact HOQ.out k (Or.inr (Or.inl e))
                · rcases mem_putL.1 hg with rfl | hg
                  · rcases cut_blk f (cutM ks f) W6 (HD6.out.rows f HFM.out) hml with e2 | e2
                    · rw [e2] at e; cases e
                    · rw [e2] at e
                      exact HOQ.out k (Or.inr (Or.inr ⟨f, HFM.out, e⟩))
                  · exact HOQ.out k (Or.inr (Or.inr ⟨g, hg.1, e⟩))
              case measure => rw [HX.out.1.left_eq, HRQ.out.left_eq]; exact hlt1
        · intro s x w1 cnt1 hs hx hlx hrg1 hlt1 hg1 hs1 hen
          have HB3 := Lib.hid (HB2.out.grown hg1 (by have := HB2.out.size; omega) (fun k hk => by cases hk; exact HB.out.size))
          have HX := Lib.hid hx
          have HRG1 := Lib.hid hrg1
          have hsz1 : wa.heap.size < w1.heap.size := by omega
          clear hrg hrg1 hg1 hs1 hx
          have p1 : w1.cell? ⟨p, 1, none⟩ = _ := HC1.out w1 HB3.out
          cases hl : look L s with
          | some f =>
            have hlk := look_run (HH.out.below HB3.out) hs hl
            have HL := Lib.hid hl
            clear hl
            go_wp2
            go_roundw
            case rel =>
              refine ⟨_, cnt1, HRG1.out.alloc _, HB3.out.alloc (by have := HB3.out.size; omega) _, by simp; omega, fun t y hy hlt => ?_⟩
              by_cases e : t = s
              · subst e; rw [HL.out]; rfl
              · rw [sameKey_ne (fun e2 => e (skey_inj e2))] at hlt
                exact HSEEN.out t y hy (by simpa using hlt)
            case measure => rw [(HRG1.out.alloc _).left_eq, HRG.out.left_eq]; exact hlt1
          | none =>
            have hlk := look_run_no (HH.out.below HB3.out) hs hl
            have HL := Lib.hid hl
            clear hl
            go_wp2
            go_ret2
            obtain ⟨k, hk, e1, e2⟩ := kFind_some HX.out
            exact ⟨HB3.out.alloc (by have := HB3.out.size; omega) _, Or.inr (Or.inl ⟨HOK.out, ⟨k, hk, by rw [e1]; exact HL.out⟩, rfl⟩)⟩
end Go.Proofs.Ytbjhcbiihekceaa
