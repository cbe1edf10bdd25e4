/- A job's trees gone over once: by a contract. -/
import Derived.Test.YtkgcbhpgkcfkhaaCjr
namespace Go.Proofs.Ytkgcbhpgkcfkhaa
open Go.ChangeShapes Go.WideShapes Go.ChangeAt Go.RowKit Go.Shelf
set_option linter.unusedVariables false
set_option linter.unusedSimpArgs false
attribute [local go_sem] Oper.semAt_some

set_option maxRecDepth 100000 in
theorem hnf120 (f : Fn) (c1 c2 : Array Value) (w : World) : (binOp .eql 120 (.func f c1 c2) .nilFunc).run Try.prog w = .ok (.bool false) w := by
  first | rfl | simp [binOp, run_underlying Try.underlying120] | simp [binOp, Op.equal, run_underlying Try.underlying120, go_sem]
def fitsT (l : List (Int × Int)) (m : Nat) (x : Tr) : Prop := x.1 = m ∧ l[m]? = some (x.2.1, x.2.2)
theorem fitsT_idx (l : List (Int × Int)) (ini t : List Tr) (x : Tr) (h : idx 0 l = ini ++ [x] ++ t) : fitsT l ini.length x := by
  have hx : (idx 0 l)[ini.length]? = some x := by rw [h]; simp
  have : ∀ (l : List (Int × Int)) (s m : Nat) (x : Tr), (idx s l)[m]? = some x → x.1 = s + m ∧ l[m]? = some (x.2.1, x.2.2) := by
    intro l
    induction l with
    | nil => intro s m x h; simp [idx] at h
    | cons p r ih =>
      intro s m x h
      cases m with
      | zero => simp [idx] at h; subst h; simp
      | succ m =>
        have h' : (idx (s + 1) r)[m]? = some x := by simpa [idx] using h
        obtain ⟨h1, h2⟩ := ih (s + 1) m x h'
        exact ⟨by omega, by simpa using h2⟩
  obtain ⟨h1, h2⟩ := this l 0 ini.length x hx
  exact ⟨by omega, h2⟩
/-- While all is as it should be. -/
structure OI (Nb Rb Mb Wb : Nat) (most : Int) (wv : Value) (pre : List Tr) (W : World) : Prop where
  bN : ∃ m : Nat, m = pre.length ∧ BoxC W Nb #[.int .i64 (m : Int)] 3
  bR : BoxC W Rb #[.bool false] 4
  bM : BoxC W Mb #[.int .i64 most] 3
  bW : BoxC W Wb #[wv] 54
theorem OI.own {Nb Rb Mb Wb : Nat} {most : Int} {wv : Value} {pre : List Tr} {W W' : World} {row : Option Nat} (h : OI Nb Rb Mb Wb most wv pre W) (hg : W.grownBy W' row) (hr : ∀ r, row = some r → ∃ o : Obj, W.heap[r]? = some o ∧ o.isCells = false) : OI Nb Rb Mb Wb most wv pre W' := by
  obtain ⟨m, e, hm⟩ := h.bN
  exact ⟨⟨m, e, hm.own hg hr⟩, h.bR.own hg hr, h.bM.own hg hr, h.bW.own hg hr⟩
theorem KeepsFrom.drwN {B : Nat} {W X : World} (h : KeepsFrom B W X) (n : Nat) : KeepsFrom B W (X.drewN n) := h.trans (KeepsFrom.of_grownBy (grown_below' (below_drewN (Below.refl X.heap.size X) n)) (fun j e => by cases e))
theorem OI.below {Nb Rb Mb Wb : Nat} {most : Int} {wv : Value} {pre : List Tr} {W W' : World} (h : OI Nb Rb Mb Wb most wv pre W) (b : Below W.heap.size W W') : OI Nb Rb Mb Wb most wv pre W' := by
  obtain ⟨m, e, hm⟩ := h.bN
  exact ⟨⟨m, e, hm.below b⟩, h.bR.below b, h.bM.below b, h.bW.below b⟩
structure OX (l : List (Int × Int)) (Rb : Nat) (pre : List Tr) (W : World) : Prop where
  ex : ∃ ini x, pre = ini ++ [x] ∧ (fitsT l ini.length x → BoxC W Rb #[.bool true] 4)
theorem OX.own {l : List (Int × Int)} {Rb : Nat} {pre : List Tr} {W W' : World} {row : Option Nat} (h : OX l Rb pre W) (hg : W.grownBy W' row) (hr : ∀ r, row = some r → ∃ o : Obj, W.heap[r]? = some o ∧ o.isCells = false) : OX l Rb pre W' := by
  obtain ⟨ini, x, e, hx⟩ := h.ex
  exact ⟨⟨ini, x, e, fun h => (hx h).own hg hr⟩⟩
set_option maxRecDepth 100000 in
set_option maxHeartbeats 4000000 in
theorem once_law (j : Job) (most : Int) (a : Option Addr) (n cap : Nat) (hn : (named j).length = n) (w : World) (hj : JobAt w j) (hw : NmR w a (named j)) :
    Calls Try.prog 39 #[.agg #[.int .i64 j.w, .int .i64 j.l, .int .i64 j.d, .int .i64 j.c, .int .i64 j.k, .int .i64 j.e, .slice j.a j.n j.cap], .slice a n cap, .int .i64 most] w fun r w' => r = .returned (.bool true) ∧ Below w.heap.size w w' := by
  have HJ := Lib.hid hj
  have hnl := named_len j (by have := hj.len; omega)
  rw [hn] at hnl
  have hni : (n : Int) ≤ 12 := by omega
  have HN := Lib.hid hn
  have HW := Lib.hid hw
  have hnf := hnf120
  clear hj hw hn
  refine (callsIn_wide (n := 6)).1 ?_
  refine callsIn_of_wp_marks Try.func39 rfl trivial ?_ rfl
  simp only [Try.ntmps39, List.size_toArray, List.length_cons, List.length_nil, Nat.reduceAdd, Nat.reduceSub, Array.replicate_succ, Array.replicate_zero, List.push_toArray, List.append_toArray, List.nil_append, List.cons_append]
  gi_wp2_with fail
  refine ⟨trivial, ?_⟩
  refine (callsIn_wide.2 (all_in j _)).mono ?_
  rintro e w' ⟨rfl, rfl⟩
  gi_wp2_with fail
  have hbw : Below w.heap.size w ((((((w.alloc (.cells #[.int .i64 j.w, .int .i64 j.l, .int .i64 j.d, .int .i64 j.c, .int .i64 j.k, .int .i64 j.e, .slice j.a j.n j.cap] 53)).alloc (.cells #[.slice a n cap] 54)).alloc (.cells #[.int .i64 most] 3)).alloc (.cells #[.bool false] 4)).alloc (.cells #[.int .i64 0] 3)).alloc (.cells #[.int .i64 j.w, .int .i64 j.l, .int .i64 j.d, .int .i64 j.c, .int .i64 j.k, .int .i64 j.e, .slice j.a j.n j.cap] 53)) := ((((((Below.refl _ w).alloc (Nat.le_refl _) _).alloc (by simp) _).alloc (by simp; omega) _).alloc (by simp; omega) _).alloc (by simp; omega) _).alloc (by simp; omega) _
  have bW := ((((BoxC.new (w.alloc (.cells #[.int .i64 j.w, .int .i64 j.l, .int .i64 j.d, .int .i64 j.c, .int .i64 j.k, .int .i64 j.e, .slice j.a j.n j.cap] 53)) #[.slice a n cap] 54).alloc (.cells #[.int .i64 most] 3)).alloc (.cells #[.bool false] 4)).alloc (.cells #[.int .i64 0] 3)).alloc (.cells #[.int .i64 j.w, .int .i64 j.l, .int .i64 j.d, .int .i64 j.c, .int .i64 j.k, .int .i64 j.e, .slice j.a j.n j.cap] 53)
  have bM := (((BoxC.new ((w.alloc (.cells #[.int .i64 j.w, .int .i64 j.l, .int .i64 j.d, .int .i64 j.c, .int .i64 j.k, .int .i64 j.e, .slice j.a j.n j.cap] 53)).alloc (.cells #[.slice a n cap] 54)) #[.int .i64 most] 3).alloc (.cells #[.bool false] 4)).alloc (.cells #[.int .i64 0] 3)).alloc (.cells #[.int .i64 j.w, .int .i64 j.l, .int .i64 j.d, .int .i64 j.c, .int .i64 j.k, .int .i64 j.e, .slice j.a j.n j.cap] 53)
  have bR := ((BoxC.new (((w.alloc (.cells #[.int .i64 j.w, .int .i64 j.l, .int .i64 j.d, .int .i64 j.c, .int .i64 j.k, .int .i64 j.e, .slice j.a j.n j.cap] 53)).alloc (.cells #[.slice a n cap] 54)).alloc (.cells #[.int .i64 most] 3)) #[.bool false] 4).alloc (.cells #[.int .i64 0] 3)).alloc (.cells #[.int .i64 j.w, .int .i64 j.l, .int .i64 j.d, .int .i64 j.c, .int .i64 j.k, .int .i64 j.e, .slice j.a j.n j.cap] 53)
  have bN := (BoxC.new ((((w.alloc (.cells #[.int .i64 j.w, .int .i64 j.l, .int .i64 j.d, .int .i64 j.c, .int .i64 j.k, .int .i64 j.e, .slice j.a j.n j.cap] 53)).alloc (.cells #[.slice a n cap] 54)).alloc (.cells #[.int .i64 most] 3)).alloc (.cells #[.bool false] 4)) #[.int .i64 0] 3).alloc (.cells #[.int .i64 j.w, .int .i64 j.l, .int .i64 j.d, .int .i64 j.c, .int .i64 j.k, .int .i64 j.e, .slice j.a j.n j.cap] 53)
  have bA := BoxC.new (((((w.alloc (.cells #[.int .i64 j.w, .int .i64 j.l, .int .i64 j.d, .int .i64 j.c, .int .i64 j.k, .int .i64 j.e, .slice j.a j.n j.cap] 53)).alloc (.cells #[.slice a n cap] 54)).alloc (.cells #[.int .i64 most] 3)).alloc (.cells #[.bool false] 4)).alloc (.cells #[.int .i64 0] 3)) #[.int .i64 j.w, .int .i64 j.l, .int .i64 j.d, .int .i64 j.c, .int .i64 j.k, .int .i64 j.e, .slice j.a j.n j.cap] 53
  simp only [World.size_alloc] at bW bM bR bN bA
  have hsz : ((((((w.alloc (.cells #[.int .i64 j.w, .int .i64 j.l, .int .i64 j.d, .int .i64 j.c, .int .i64 j.k, .int .i64 j.e, .slice j.a j.n j.cap] 53)).alloc (.cells #[.slice a n cap] 54)).alloc (.cells #[.int .i64 most] 3)).alloc (.cells #[.bool false] 4)).alloc (.cells #[.int .i64 0] 3)).alloc (.cells #[.int .i64 j.w, .int .i64 j.l, .int .i64 j.d, .int .i64 j.c, .int .i64 j.k, .int .i64 j.e, .slice j.a j.n j.cap] 53)).heap.size = w.heap.size + 6 := by simp
  obtain ⟨W0, hW0⟩ : ∃ W0, ((((((w.alloc (.cells #[.int .i64 j.w, .int .i64 j.l, .int .i64 j.d, .int .i64 j.c, .int .i64 j.k, .int .i64 j.e, .slice j.a j.n j.cap] 53)).alloc (.cells #[.slice a n cap] 54)).alloc (.cells #[.int .i64 most] 3)).alloc (.cells #[.bool false] 4)).alloc (.cells #[.int .i64 0] 3)).alloc (.cells #[.int .i64 j.w, .int .i64 j.l, .int .i64 j.d, .int .i64 j.c, .int .i64 j.k, .int .i64 j.e, .slice j.a j.n j.cap] 53)) = W0 := ⟨_, rfl⟩
  rw [hW0] at bW bM bR bN bA hbw hsz ⊢
  clear hW0
  refine wpIn_rangeFunc_ownH rfl (by omega) (gf := 98) (lb := #[.pointer (some ⟨w.heap.size + 1 + 1 + 1 + 1 + 1, 0, none⟩)]) rfl trivial (enters_of Try.func98 (by kernel_rfl) rfl)
    (all_stops 5 (by omega) j w HJ.out (w.heap.size + 1 + 1 + 1 + 1 + 1) W0 hbw bA) KP.trans (fun W l o o' h1 h2 h3 h4 => KP.put (w := W0) (by omega) W l o o' h1 h2 h3 h4) (Below.refl _ _) (fun _ => rfl)
    (fun pre W => OI (w.heap.size + 1 + 1 + 1 + 1) (w.heap.size + 1 + 1 + 1) (w.heap.size + 1 + 1) (w.heap.size + 1) most (.slice a n cap) pre W ∧ Below w.heap.size w W)
    (fun c pre W => (c = .ret ∧ OX (named j) (w.heap.size + 1 + 1 + 1) pre W) ∧ Below w.heap.size w W)
    (OwnFrom.and (Own.from (fun s X Y row hs hg hr => hs.own hg hr) _) (ownFrom_below (Nat.le_refl _) (by omega)))
    (fun c => OwnFrom.and (Own.from (fun s X Y row hs hg hr => ⟨hs.1, hs.2.own hg hr⟩) _) (ownFrom_below (Nat.le_refl _) (by omega)))
    ⟨⟨⟨0, rfl, bN⟩, bR, bM, bW⟩, hbw⟩
    (fun x a' W => ∃ Bx, w.heap.size + 1 + 1 + 1 + 1 < Bx ∧ BoxC W Bx #[.int .i64 x.2.1, .int .i64 x.2.2] 66 ∧ a' = { tmps := #[.agg #[.int .i64 j.w, .int .i64 j.l, .int .i64 j.d, .int .i64 j.c, .int .i64 j.k, .int .i64 j.e, .slice j.a j.n j.cap], .slice a n cap, .int .i64 most, .pointer (some ⟨w.heap.size, 0, none⟩), .pointer (some ⟨w.heap.size + 1, 0, none⟩), .pointer (some ⟨w.heap.size + 1 + 1, 0, none⟩), .pointer (some ⟨w.heap.size + 1 + 1 + 1, 0, none⟩), .pointer (some ⟨w.heap.size + 1 + 1 + 1 + 1, 0, none⟩), (.func (.func 98) #[] #[.pointer (some ⟨w.heap.size + 1 + 1 + 1 + 1 + 1, 0, none⟩)]), .int .i64 (x.1 : Int), .pointer (some ⟨Bx, 0, none⟩), .agg #[.int .i64 j.w, .int .i64 j.l, .int .i64 j.d, .int .i64 j.c, .int .i64 j.k, .int .i64 j.e, .slice j.a j.n j.cap], (.func (.func 98) #[] #[.pointer (some ⟨w.heap.size + 1 + 1 + 1 + 1 + 1, 0, none⟩)]), (.func (.func 98) #[] #[.pointer (some ⟨w.heap.size + 1 + 1 + 1 + 1 + 1, 0, none⟩)]), .bool false, (.func (.func 98) #[] #[.pointer (some ⟨w.heap.size + 1 + 1 + 1 + 1 + 1, 0, none⟩)]), .int .i64 (x.1 : Int), .agg #[.int .i64 x.2.1, .int .i64 x.2.2], undef, undef, undef, undef, undef, undef, undef, undef, undef, undef, undef, undef, undef, undef, undef, undef, undef, undef, undef, undef, undef, undef, undef, undef, undef, undef], defers := [] })
    (fun x a' _ X Y row hs hg hr => by obtain ⟨Bx, h1, h2, h3⟩ := hs; exact ⟨Bx, h1, h2.own hg (fun r e => (hr r e).2), h3⟩)
    ?assign ?body ?done ?stop
  case assign =>
    rintro l pre x W K ⟨hI, hB1⟩ hK
    dsimp only [encs]
    obtain ⟨m, em, bN1⟩ := hI.bN
    have hlO := bN1.lt
    gi_wp2
    have BA : Below W.heap.size W (W.alloc (.cells #[.int .i64 x.2.1, .int .i64 x.2.2] 66)) := (Below.refl _ W).alloc (Nat.le_refl _) _
    exact hK _ _ ((KeepsOthers.alloc _ _).from _) (KP.below hB1.size BA) ⟨hI.below BA, step_below hB1 BA⟩ ⟨W.heap.size, hlO, BoxC.new _ _ _, by simp⟩
  case body =>
    rintro l pre x a' W hl _ ⟨hI, hB1⟩ ⟨Bx, hBx, bX, rfl⟩ hlt
    obtain ⟨m, em, bN1⟩ := hI.bN
    have cX0 := bX.cell 0
    have cX1 := bX.cell 1
    have cN := bN1.cell 0
    have fN := bN1.frozen 0
    have cR := hI.bR.cell 0
    have fR := hI.bR.frozen 0
    have cM := hI.bM.cell 0
    have cW := hI.bW.cell 0
    simp only [List.getElem?_toArray, List.getElem?_cons_zero, List.getElem?_cons_succ] at cX0 cX1 cN cR cM cW
    have hmn : m < n := by rw [← HN.out]; omega
    have hmni : (m : Int) < (n : Int) := by omega
    have hmi : (m : Int) ≤ 12 := by omega
    obtain ⟨p, hp⟩ : ∃ p, (named j)[m]? = some p := ⟨_, List.getElem?_eq_getElem (by rw [HN.out]; exact hmn)⟩
    obtain ⟨b1, o1, ea, d0, d1⟩ := (HW.out.below hB1) m p hp
    obtain ⟨y, z⟩ := p
    simp only at d0 d1
    have EM := Lib.hid em
    have HP := Lib.hid hp
    have HI := Lib.hid hI
    have HB1 := Lib.hid hB1
    have hlX := bX.lt
    rw [ea] at cW
    have EA := Lib.hid ea
    have g0 : ¬ (n : Int) ≤ (m : Int) := by omega
    have g1 : decide ((n : Int) ≤ (m : Int)) = false := by simpa using g0
    have g2 : decide (n ≤ m) = false := by simp; omega
    have BN := Lib.hid bN1
    clear em hp hI hB1 ea bX bN1
    by_cases q1 : x.1 = m
    · have t1 : ((x.1 : Int) != (m : Int)) = false := by rw [q1]; simp
      by_cases q2 : x.2.1 = y
      · by_cases q3 : x.2.2 = z
        · have HF := Lib.hid (show fitsT (named j) m x from ⟨q1, by rw [HP.out, q2, q3]⟩)
          have u2 : (x.2.1 == y) = true := by simpa using q2
          have u3 : (x.2.2 == z) = true := by simpa using q3
          have v2 : (x.2.1 != y) = false := by simpa using q2
          have v3 : (x.2.2 != z) = false := by simpa using q3
          have Q1 := Lib.hid q1
          rw [q2] at cX0
          rw [q3] at cX1
          rw [q2, q3]
          clear q1 q2 q3
          by_cases q5 : (m : Int) + 1 = most
          · have t5 : ((m : Int) + 1 == most) = true := by simpa using q5
            have Q5 := Lib.hid q5
            clear q5
            gi_wp2_with fail
            refine quiet_round rfl (by kernel_rfl) (by kernel_rfl) (by kernel_rfl) ?_
            repeat (gi_big_quiet_step (fail))
            refine wpQuietIn_nil ?_
            intro _ hw'
            obtain ⟨nq, hw''⟩ := hw'
            subst hw''
            gi_wp2
            exact ⟨((KeepsFrom.drwN (KeepsFrom.refl _ _) _).trans ((KeepsOthers.setCell _ _ _).from _)).trans ((KeepsOthers.setCell _ _ _).from _), ⟨rfl, ⟨pre, x, rfl, fun _ => BoxC.set1 (BoxC.oth (by omega) HI.out.bR)⟩⟩, ((below_drewN HB1.out _).setCell (p := ⟨w.heap.size + 1 + 1 + 1 + 1, 0, none⟩) (by simp; omega) _).setCell (p := ⟨w.heap.size + 1 + 1 + 1, 0, none⟩) (by simp; omega) _⟩
          · have t5 : ((m : Int) + 1 == most) = false := by simpa using q5
            have Q5 := Lib.hid q5
            clear q5
            gi_wp2_with fail
            refine quiet_round rfl (by kernel_rfl) (by kernel_rfl) (by kernel_rfl) ?_
            repeat (gi_big_quiet_step (fail))
            refine wpQuietIn_nil ?_
            intro _ hw'
            obtain ⟨nq, hw''⟩ := hw'
            subst hw''
            gi_wp2
            have bN3 : BoxC ((W.drewN nq).setCell ⟨w.heap.size + 1 + 1 + 1 + 1, 0, none⟩ (.int .i64 ((m : Int) + 1))) (w.heap.size + 1 + 1 + 1 + 1) #[.int .i64 (((m + 1 : Nat) : Int))] 3 := by
              rw [show (((m + 1 : Nat) : Int)) = (m : Int) + 1 by omega]
              exact BoxC.set1 BN.out
            exact ⟨(KeepsFrom.drwN (KeepsFrom.refl _ _) _).trans ((KeepsOthers.setCell _ _ _).from _), (KP.trans ⟨below_drewN (Below.refl _ _) _, fun h => h⟩ (KP.set (by omega) (by omega))), ⟨⟨m + 1, by simp [EM.out], bN3⟩, BoxC.oth (by omega) HI.out.bR, BoxC.oth (by omega) HI.out.bM, BoxC.oth (by omega) HI.out.bW⟩, (below_drewN HB1.out _).setCell (p := ⟨w.heap.size + 1 + 1 + 1 + 1, 0, none⟩) (by simp; omega) _⟩
        · have u3 : (x.2.2 == z) = false := by simpa using q3
          have v3 : (x.2.2 != z) = true := by simpa using q3
          have v2 : (x.2.1 != y) = false := by simpa using q2
          have u2 : (x.2.1 == y) = true := by simpa using q2
          have hno : ¬ fitsT (named j) m x := fun h => q3 (by have := h.2; rw [HP.out] at this; simp at this; exact this.2.symm)
          have HNO := Lib.hid hno
          clear hno q1 q2 q3
          gi_wp2_with fail
          refine quiet_round rfl (by kernel_rfl) (by kernel_rfl) (by kernel_rfl) ?_
          repeat (gi_big_quiet_step (fail))
          refine wpQuietIn_nil ?_
          intro _ hw'
          obtain ⟨nq, hw''⟩ := hw'
          subst hw''
          gi_wp2
          exact ⟨(KeepsFrom.drwN (KeepsFrom.refl _ _) _).trans ((KeepsOthers.setCell _ _ _).from _), ⟨rfl, ⟨pre, x, rfl, fun h => absurd h (by rw [← EM.out]; exact HNO.out)⟩⟩, (below_drewN HB1.out _).setCell (p := ⟨w.heap.size + 1 + 1 + 1, 0, none⟩) (by simp; omega) _⟩
      · have u2 : (x.2.1 == y) = false := by simpa using q2
        have v2 : (x.2.1 != y) = true := by simpa using q2
        have hno : ¬ fitsT (named j) m x := fun h => q2 (by have := h.2; rw [HP.out] at this; simp at this; exact this.1.symm)
        have HNO := Lib.hid hno
        clear hno q1 q2
        gi_wp2_with fail
        refine quiet_round rfl (by kernel_rfl) (by kernel_rfl) (by kernel_rfl) ?_
        repeat (gi_big_quiet_step (fail))
        refine wpQuietIn_nil ?_
        intro _ hw'
        obtain ⟨nq, hw''⟩ := hw'
        subst hw''
        gi_wp2
        exact ⟨(KeepsFrom.drwN (KeepsFrom.refl _ _) _).trans ((KeepsOthers.setCell _ _ _).from _), ⟨rfl, ⟨pre, x, rfl, fun h => absurd h (by rw [← EM.out]; exact HNO.out)⟩⟩, (below_drewN HB1.out _).setCell (p := ⟨w.heap.size + 1 + 1 + 1, 0, none⟩) (by simp; omega) _⟩
    · have t1 : ((x.1 : Int) != (m : Int)) = true := by simp; omega
      have hno : ¬ fitsT (named j) m x := fun h => q1 h.1
      have HNO := Lib.hid hno
      clear hno q1
      gi_wp2_with fail
      refine quiet_round rfl (by kernel_rfl) (by kernel_rfl) (by kernel_rfl) ?_
      repeat (gi_big_quiet_step (fail))
      refine wpQuietIn_nil ?_
      intro _ hw'
      obtain ⟨nq, hw''⟩ := hw'
      subst hw''
      gi_wp2
      exact ⟨(KeepsFrom.drwN (KeepsFrom.refl _ _) _).trans ((KeepsOthers.setCell _ _ _).from _), ⟨rfl, ⟨pre, x, rfl, fun h => absurd h (by rw [← EM.out]; exact HNO.out)⟩⟩, (below_drewN HB1.out _).setCell (p := ⟨w.heap.size + 1 + 1 + 1, 0, none⟩) (by simp; omega) _⟩
  case done =>
    rintro D zs W hD rfl ⟨hI, hB1⟩ hK
    obtain ⟨m, em, bN1⟩ := hI.bN
    rw [idx_length, HN.out] at em
    subst em
    have cN := bN1.cell 0
    have cR := hI.bR.cell 0
    have fR := hI.bR.frozen 0
    have cW := hI.bW.cell 0
    simp only [List.getElem?_toArray, List.getElem?_cons_zero, List.getElem?_cons_succ] at cN cR cW
    have t0 : ((m : Int) == (m : Int)) = true := by simp
    have HI := Lib.hid hI
    clear hI bN1
    gi_wp2_with fail
    have hK2 : (W.setCell ⟨w.heap.size + 1 + 1 + 1, 0, none⟩ (.bool true)).heap[D]? = some (.deferred (some [])) := (KeepsOthers.setCell W ⟨w.heap.size + 1 + 1 + 1, 0, none⟩ (.bool true)).same D _ hK rfl
    have bR2 : BoxC (W.setCell ⟨w.heap.size + 1 + 1 + 1, 0, none⟩ (.bool true)) (w.heap.size + 1 + 1 + 1) #[.bool true] 4 := BoxC.set1 HI.out.bR
    have B2 : Below w.heap.size w (W.setCell ⟨w.heap.size + 1 + 1 + 1, 0, none⟩ (.bool true)) := hB1.setCell (p := ⟨w.heap.size + 1 + 1 + 1, 0, none⟩) (by simp; omega) _
    generalize W.setCell ⟨w.heap.size + 1 + 1 + 1, 0, none⟩ (.bool true) = W2 at bR2 B2 hK2 ⊢
    refine ⟨by simp, .inl ⟨_, _, rfl, run_takeDeferred hK2, ?_⟩⟩
    have bR3 := bR2.kept (grownBy_putObj' W2 D (.deferred none)) (fun e => by cases e; omega)
    have h0 := bR3.cell 0
    simp only [List.getElem?_toArray, List.getElem?_cons_zero, List.getElem?_cons_succ] at h0
    refine ⟨.bool true, ?_, rfl, B2.trans (belowK_b (w := w) (Nat.le_refl _) _ D _ _ (by omega) hK2 rfl rfl)⟩
    simp [results, Try.f39, go_sem, h0]
  case stop =>
    rintro D c pre W hD ⟨t, ht⟩ ⟨⟨rfl, hX⟩, hB1⟩ hK
    obtain ⟨ini, x, e1, hx⟩ := hX.ex
    have bR := hx (fitsT_idx (named j) ini t x (by rw [ht, e1]))
    gi_wp2
    refine ⟨by simp, .inl ⟨_, _, rfl, run_takeDeferred hK, ?_⟩⟩
    have bR3 := bR.kept (grownBy_putObj' W D (.deferred none)) (fun e => by cases e; omega)
    have h0 := bR3.cell 0
    simp only [List.getElem?_toArray, List.getElem?_cons_zero, List.getElem?_cons_succ] at h0
    refine ⟨.bool true, ?_, rfl, hB1.trans (belowK_b (w := w) (Nat.le_refl _) _ D _ _ (by omega) hK rfl rfl)⟩
    simp [results, Try.f39, go_sem, h0]
end Go.Proofs.Ytkgcbhpgkcfkhaa
