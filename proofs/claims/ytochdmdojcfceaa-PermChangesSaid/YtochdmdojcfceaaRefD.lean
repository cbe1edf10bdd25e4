/- The reference's made: two lists put together into a word. -/
import Derived.Test.YtochdmdojcfceaaRefC
import Derived.Laws.OwnMore
namespace Go.Proofs.Ytochdmdojcfceaa
open Go.ChangeShapes Go.WideShapes Go.ChangeAt Go.RowKit Go.Shelf
open PM
set_option linter.unusedVariables false
set_option linter.unusedSimpArgs false

/-- An append of a list that is read, nil or not. -/
theorem append_rd {ops : Array Oper} {rest : List Oper} {o : Oper} {a : Act} {w : World} {Q : Exit → Act → World → Prop} (hgd : o.guard = none) (s x : Operand)
    (ho : o.op = .call { callee := .builtin .append, args := #[s, x], argTypes := #[23, 23] })
    (base : Nat) (v : Value) (n : Nat) (xs : List Value) (hs : a.eval s = v) (hown : w.ownsRow base 3 1 v n xs)
    (ad : Option Addr) (c len : Nat) (l : List Nat) (hlen : l.length = len) (hx : a.eval x = .slice ad len c) (hR : Rd w ad (ints l)) (hnil : ad = none → l = [] ∧ c = 0)
    (hb : n + len ≤ 1048576) (hbase : base ≤ w.heap.size)
    (h : ∀ v' w', w'.ownsRow base 3 1 v' (n + len) (xs ++ iv l) → w.grownBy w' v.ownBlock → wpList Try.prog ops Q rest (a.put o.dst v') w') :
    wpList Try.prog ops Q (o :: rest) a w := by
  subst hlen
  obtain ⟨i0, hi, hz0, hz1, hz2⟩ := info_parts info3
  rcases ad with _ | ad
  · obtain ⟨rfl, rfl⟩ := hnil rfl
    refine wpList_plain hgd fun K hK => ?_
    have hr := run_append_owned_none (P := Try.prog) (w := w) base 23 o.type 3 i0 1 Try.underlying23 hi v n xs hown
    simp only [List.length_nil] at hx
    unfold Oper.wp execOp
    simp only [ho, resolve, invoke, builtin, Sem.run_bind, Sem.run_pure, Result.andThen_ok, List.map_toArray, List.map_cons, List.map_nil, hs, hx, hr]
    exact hK _ _ (h v w (by simpa [iv] using hown) ⟨rfl, rfl, rfl, Nat.le_refl _, fun _ _ _ => rfl⟩)
  · refine wpList_append_own _ hgd s x 23 ho base 3 i0 (.int .i64 0) 1 8 Try.underlying23 hi hz0 hz1 hz2 rfl (by decide) v n xs hs hown ad l.length c (iv l) hx (by simp [iv]) ?_ ?_ (by unfold maxLen; omega) (by omega) hbase (fun v' w' h2 h3 _ => h v' w' h2 h3)
    · intro j u hj
      have hjl : j < l.length := by have := (List.getElem?_eq_some_iff.1 hj).1; simpa [iv] using this
      obtain ⟨b, off, e, hc⟩ := hR j (by rw [ints_length]; exact hjl)
      cases e
      have hu : u = .int .i64 ((l.getD j 0 : Nat) : Int) := by
        simp [iv, hjl] at hj
        rw [← hj]; simp [List.getD, List.getElem?_eq_getElem hjl]
      rw [hu, ← ints_get l j hjl]
      rw [show ((⟨b, off, none⟩ : Addr).add j) = ⟨b, off + j, none⟩ by unfold Addr.add; split <;> simp_all]
      exact hc
    · intro u hu; simp only [iv, List.mem_map] at hu; obtain ⟨x, _, rfl⟩ := hu; rfl

theorem Rd.setOther {W : World} {g off : Nat} {L : List Int} (h : Rd W (some ⟨g, off, none⟩) L) (B o : Nat) (v : Value) (hne : g ≠ B) : Rd (W.setCell ⟨B, o, none⟩ v) (some ⟨g, off, none⟩) L := fun k hk => by
  obtain ⟨b, f, e, hc⟩ := h k hk
  cases e
  exact ⟨g, off, rfl, by rw [World.cell?_setCell_other W ⟨B, o, none⟩ ⟨g, off + k, none⟩ _ (fun q => by simp at q <;> omega)]; exact hc⟩

set_option maxRecDepth 100000 in
set_option maxHeartbeats 4000000 in
theorem made_law (la lb m : List Nat) (hm : la ++ lb = m) (n : Nat) (hn : la.length = n) (h : Wrd n m) (a b : Option Addr) (ca cb : Nat) (w : World) (hA : Rd w a (ints la)) (hB : Rd w b (ints lb)) (na : a = none → la = [] ∧ ca = 0) (nb : b = none → lb = [] ∧ cb = 0) :
    Calls Try.prog 32 #[.slice a n ca, .slice b (15 - n) cb] w fun e w' => e = .returned (.int .u64 ((enc (n :: m) : Nat) : Int)) ∧ Below w.heap.size w w' := by
  have hlen := h.len
  have h16 := h.n16
  have hlb : lb.length = 15 - n := by have := congrArg List.length hm; simp at this; omega
  have hn15 : n ≤ 15 := by have := congrArg List.length hm; simp at this; omega
  have HW := Lib.hid h
  have P0 := pb_new w n
  have B0 : Below w.heap.size w (w.alloc (.cells #[.int .i64 (n : Int), .int .i64 0, .int .i64 0, .int .i64 0, .int .i64 0, .int .i64 0, .int .i64 0, .int .i64 0, .int .i64 0, .int .i64 0, .int .i64 0, .int .i64 0, .int .i64 0, .int .i64 0, .int .i64 0, .int .i64 0] 27)) := (Below.refl _ _).alloc (Nat.le_refl _) _
  have HA := Lib.hid (hA.below B0)
  have HB := Lib.hid (hB.below B0)
  have HN := Lib.hid hn
  have HLB := Lib.hid hlb
  have HM := Lib.hid hm
  have HP := Lib.hid P0
  have HBl := Lib.hid B0
  have NA := Lib.hid na
  have NB := Lib.hid nb
  clear h hA hB hn hlb hm P0 B0 na nb
  go_enter Try.func32, Try.ntmps32
  go_wp2_with (at_builtin; refine append_rd rfl _ _ rfl (w.heap.size + 1) _ 0 [] rfl (World.ownsRow_nil _ _ 3 1) a ca n la HN.out rfl HA.out NA.out (by omega) (by simp) ?_)
  intro v1 w1 hown1 hg1
  have hz1 : w.heap.size + 1 ≤ w1.heap.size := by have := hg1.size; simpa using this
  have hB1 : Below (w.heap.size + 1) (w.alloc (.cells #[.int .i64 (n : Int), .int .i64 0, .int .i64 0, .int .i64 0, .int .i64 0, .int .i64 0, .int .i64 0, .int .i64 0, .int .i64 0, .int .i64 0, .int .i64 0, .int .i64 0, .int .i64 0, .int .i64 0, .int .i64 0, .int .i64 0] 27)) w1 := (Below.refl _ _).grown hg1 (by simp) (fun j hj => by cases hj)
  have HB1 := Lib.hid hB1
  have HO1 := Lib.hid hown1
  have HRB := Lib.hid (HB.out.below (by simpa using hB1))
  clear hg1 hB1 hown1
  go_wp2_with (at_builtin; refine append_rd rfl _ _ rfl (w.heap.size + 1) v1 n (iv la) rfl HO1.out b cb (15 - n) lb HLB.out rfl HRB.out NB.out (by omega) hz1 ?_)
  intro v2 w2 hown2 hg2
  have hB2 : Below (w.heap.size + 1) (w.alloc (.cells #[.int .i64 (n : Int), .int .i64 0, .int .i64 0, .int .i64 0, .int .i64 0, .int .i64 0, .int .i64 0, .int .i64 0, .int .i64 0, .int .i64 0, .int .i64 0, .int .i64 0, .int .i64 0, .int .i64 0, .int .i64 0, .int .i64 0] 27)) w2 := HB1.out.grown hg2 hz1 (fun j hj => (HO1.out.lt j hj).1)
  have eiv : iv la ++ iv lb = iv m := by rw [← HM.out]; simp [iv]
  rw [eiv] at hown2
  clear eiv
  have hsz2 := hB2.size
  have P2 : PB w2 w.heap.size n (m.take 0) := by rw [List.take_zero]; exact HP.out.below (by simpa using hB2)
  have B2 : Below w.heap.size w w2 := HBl.out.trans ⟨hB2.os, hB2.tape, hB2.output, hB2.size, fun k hk => hB2.block k (by omega)⟩
  obtain ⟨g, cap, rfl⟩ := own_some hown2 (by omega)
  have hgl := (hown2.lt g rfl).1
  obtain ⟨a', cap', e, h2, h3, h4⟩ := own_rd (l := m) hown2 hlen
  cases e
  have R2 := h3
  clear HB1 HO1 HRB hown2 hg2 hB2 h3 h4 HA HB HP HBl NA NB HM HN HLB hsz2 hz1
  go_wp2_with fail
  go_loopw [7] (fun i wr => ∃ k : Nat, k ≤ 15 ∧ i = .int .i64 k ∧ PB wr w.heap.size n (m.take k) ∧ Rd wr (some ⟨g, 0, none⟩) (ints m) ∧ Below w.heap.size w wr) (fun i _ => 15 - (intOf i).toNat)
  case atStart => exact ⟨0, by omega, rfl, P2, R2, B2⟩
  case round =>
    clear P2 R2 B2
    obtain ⟨k, hk, rfl, hP, hR, B⟩ := hrel
    by_cases hlt : k < 15
    · have hkl : (k : Int) < 15 := by omega
      have cg : wr.cell? ⟨g, k, none⟩ = some (.int .i64 ((m.getD k 0 : Nat) : Int)) := by
        obtain ⟨b, off, e, hc⟩ := hR k (by rw [ints_length]; omega)
        cases e
        rw [ints_get m k (by omega), Nat.zero_add] at hc
        exact hc
      have hget : ∀ j < 15, (m.take (k + 1)).getD j 0 = if j = k then m.getD k 0 else (m.take k).getD j 0 := fun j hj => by
        simp only [List.getD, List.getElem?_take]
        by_cases h1 : j = k
        · subst h1; simp
        · rw [if_neg h1]
          by_cases h2 : j < k
          · rw [if_pos (by omega), if_pos h2]
          · rw [if_neg (by omega), if_neg h2]
      obtain ⟨x, hx⟩ : ∃ x, m.getD k 0 = x := ⟨_, rfl⟩
      rw [hx] at hget cg
      have hP2 := hP.set k x hlt hget
      have hR2 := hR.setOther w.heap.size (1 + k) (.int .i64 (x : Int)) (by omega)
      have B2 := B.setCell (p := ⟨w.heap.size, 1 + k, none⟩) (by simp) (.int .i64 (x : Int))
      have cc := hP.cell k hlt
      have ff := hP.free (1 + k) (by omega)
      clear hget hx
      go_wp2_with fail
      go_roundw
      case rel => exact ⟨k + 1, by omega, by go_num, hP2, hR2, B2⟩
      case measure => simp [intOf]; omega
    · have e15 : k = 15 := by omega
      subst e15
      have e2 : m.take 15 = m := by rw [List.take_of_length_le (by omega)]
      rw [e2] at hP
      clear e2
      obtain ⟨a0, h0⟩ : ∃ a, m.getD 0 0 = a := ⟨_, rfl⟩
      obtain ⟨a1, h1⟩ : ∃ a, m.getD 1 0 = a := ⟨_, rfl⟩
      obtain ⟨a2, h2⟩ : ∃ a, m.getD 2 0 = a := ⟨_, rfl⟩
      obtain ⟨a3, h3⟩ : ∃ a, m.getD 3 0 = a := ⟨_, rfl⟩
      obtain ⟨a4, h4⟩ : ∃ a, m.getD 4 0 = a := ⟨_, rfl⟩
      obtain ⟨a5, h5⟩ : ∃ a, m.getD 5 0 = a := ⟨_, rfl⟩
      obtain ⟨a6, h6⟩ : ∃ a, m.getD 6 0 = a := ⟨_, rfl⟩
      obtain ⟨a7, h7⟩ : ∃ a, m.getD 7 0 = a := ⟨_, rfl⟩
      obtain ⟨a8, h8⟩ : ∃ a, m.getD 8 0 = a := ⟨_, rfl⟩
      obtain ⟨a9, h9⟩ : ∃ a, m.getD 9 0 = a := ⟨_, rfl⟩
      obtain ⟨a10, h10⟩ : ∃ a, m.getD 10 0 = a := ⟨_, rfl⟩
      obtain ⟨a11, h11⟩ : ∃ a, m.getD 11 0 = a := ⟨_, rfl⟩
      obtain ⟨a12, h12⟩ : ∃ a, m.getD 12 0 = a := ⟨_, rfl⟩
      obtain ⟨a13, h13⟩ : ∃ a, m.getD 13 0 = a := ⟨_, rfl⟩
      obtain ⟨a14, h14⟩ : ∃ a, m.getD 14 0 = a := ⟨_, rfl⟩
      have hop := pvl_open n m a0 a1 a2 a3 a4 a5 a6 a7 a8 a9 a10 a11 a12 a13 a14 h0 h1 h2 h3 h4 h5 h6 h7 h8 h9 h10 h11 h12 h13 h14
      have d0 : wr.cell? ⟨w.heap.size, 0, none⟩ = some (.int .i64 (n : Int)) := hP.c0
      have d1 : wr.cell? ⟨w.heap.size, 1, none⟩ = some (.int .i64 (a0 : Int)) := by rw [← h0]; exact hP.cell 0 (by omega)
      have d2 : wr.cell? ⟨w.heap.size, 2, none⟩ = some (.int .i64 (a1 : Int)) := by rw [← h1]; exact hP.cell 1 (by omega)
      have d3 : wr.cell? ⟨w.heap.size, 3, none⟩ = some (.int .i64 (a2 : Int)) := by rw [← h2]; exact hP.cell 2 (by omega)
      have d4 : wr.cell? ⟨w.heap.size, 4, none⟩ = some (.int .i64 (a3 : Int)) := by rw [← h3]; exact hP.cell 3 (by omega)
      have d5 : wr.cell? ⟨w.heap.size, 5, none⟩ = some (.int .i64 (a4 : Int)) := by rw [← h4]; exact hP.cell 4 (by omega)
      have d6 : wr.cell? ⟨w.heap.size, 6, none⟩ = some (.int .i64 (a5 : Int)) := by rw [← h5]; exact hP.cell 5 (by omega)
      have d7 : wr.cell? ⟨w.heap.size, 7, none⟩ = some (.int .i64 (a6 : Int)) := by rw [← h6]; exact hP.cell 6 (by omega)
      have d8 : wr.cell? ⟨w.heap.size, 8, none⟩ = some (.int .i64 (a7 : Int)) := by rw [← h7]; exact hP.cell 7 (by omega)
      have d9 : wr.cell? ⟨w.heap.size, 9, none⟩ = some (.int .i64 (a8 : Int)) := by rw [← h8]; exact hP.cell 8 (by omega)
      have d10 : wr.cell? ⟨w.heap.size, 10, none⟩ = some (.int .i64 (a9 : Int)) := by rw [← h9]; exact hP.cell 9 (by omega)
      have d11 : wr.cell? ⟨w.heap.size, 11, none⟩ = some (.int .i64 (a10 : Int)) := by rw [← h10]; exact hP.cell 10 (by omega)
      have d12 : wr.cell? ⟨w.heap.size, 12, none⟩ = some (.int .i64 (a11 : Int)) := by rw [← h11]; exact hP.cell 11 (by omega)
      have d13 : wr.cell? ⟨w.heap.size, 13, none⟩ = some (.int .i64 (a12 : Int)) := by rw [← h12]; exact hP.cell 12 (by omega)
      have d14 : wr.cell? ⟨w.heap.size, 14, none⟩ = some (.int .i64 (a13 : Int)) := by rw [← h13]; exact hP.cell 13 (by omega)
      have d15 : wr.cell? ⟨w.heap.size, 15, none⟩ = some (.int .i64 (a14 : Int)) := by rw [← h14]; exact hP.cell 14 (by omega)
      clear h0 h1 h2 h3 h4 h5 h6 h7 h8 h9 h10 h11 h12 h13 h14 hP hR
      have hw := word_law n m HW.out wr
      rw [hop] at hw
      have HWL := Lib.hid hw
      clear hop hw
      go_wp2_with fail
      refine HWL.out.mono ?_; rintro e w' ⟨rfl, B'⟩
      go_wp2_with fail
      go_ret
      exact ⟨rfl, step_below B B'⟩
end Go.Proofs.Ytochdmdojcfceaa
