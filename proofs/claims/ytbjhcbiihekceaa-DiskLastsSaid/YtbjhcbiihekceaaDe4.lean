/- Disks: Same. -/
import Derived.Test.YtbjhcbiihekceaaDe3
namespace Go.Proofs.Ytbjhcbiihekceaa
open Go.ChangeShapes Go.WideShapes Go.ChangeAt Go.RowKit Go.Maps Go.Shelf
set_option linter.unusedVariables false
set_option linter.unusedSimpArgs false
attribute [local go_sem] Oper.semAt_some
theorem len_any {W : World} {p bm room : Nat} {L : List Fil} (h : Dk W p bm room L) (n : Nat) : (Builtin.len_ #[92] 3 #[.map (some bm)]).run Try.prog (W.drewN n) = .ok (.int .i64 L.length) (W.drewN n) := by
  have := (h.below (below_drewN (Below.refl _ _) n)).map.len Try.underlying92 3
  rw [size_dOf] at this
  exact this
theorem BoxC.kept {W W' : World} {row : Option Nat} {B : Nat} {cs : Array Value} {t : TypeId} (h : BoxC W B cs t) (hg : W.grownBy W' row) (hne : some B ≠ row) : BoxC W' B cs t := (hg.block B h.lt hne).trans h
theorem BoxC.own {W W' : World} {row : Option Nat} {B : Nat} {cs : Array Value} {t : TypeId} (h : BoxC W B cs t) (hg : W.grownBy W' row) (hr : ∀ r, row = some r → ∃ o : Obj, W.heap[r]? = some o ∧ o.isCells = false) : BoxC W' B cs t :=
  (hg.block B h.lt fun e => by
    obtain ⟨o, ho, hc⟩ := hr B e.symm
    rw [show W.heap[B]? = _ from h] at ho
    cases ho; cases hc).trans h
theorem keeps_below {B : Nat} {W W' : World} (b : Below W.heap.size W W') : KeepsFrom B W W' := KeepsFrom.of_grownBy (grown_of_below b) (fun j e => by cases e)
theorem drew_below {W W6 : World} (b : Below W.heap.size W W6) (n : Nat) : Below W.heap.size W (W6.drewN n) := step_below b (below_drewN (Below.refl _ _) n)
theorem ret_end {B s : Nat} {w W W6 : World} {T : Prop} (b : Below W.heap.size W W6) (n : Nat) (hs : w.heap.size ≤ s) (hw : Below w.heap.size w W) (hB : BoxC W s #[.bool false] 4) (t : T) :
    KeepsFrom B W ((W6.drewN n).setCell ⟨s, 0, none⟩ (.bool false)) ∧ (BoxC ((W6.drewN n).setCell ⟨s, 0, none⟩ (.bool false)) s #[.bool false] 4 ∧ Below w.heap.size w ((W6.drewN n).setCell ⟨s, 0, none⟩ (.bool false))) ∧ T :=
  ⟨(keeps_below (drew_below b n)).trans ((KeepsOthers.setCell _ _ _).from _), ⟨(hB.below (drew_below b n)).put 0 (.bool false), (step_below hw (drew_below b n)).setCell (p := ⟨s, 0, none⟩) hs _⟩, t⟩
theorem field1 (a : Option Addr) (n c : Nat) (l : Int) (W : World) : (Instr.field 118 (.agg #[.slice a n c, .int .i64 l]) 1).run Try.prog W = .ok (.int .i64 l) W := by
  first | kernel_rfl | simp [Instr.field, go_sem]
set_option maxRecDepth 100000 in
theorem hnf115 (f : Fn) (c1 c2 : Array Value) (w : World) : (binOp .eql 115 (.func f c1 c2) .nilFunc).run Try.prog w = .ok (.bool false) w := by
  first | rfl | simp [binOp, run_underlying Try.underlying115] | simp [binOp, Op.equal, run_underlying Try.underlying115, go_sem]
set_option maxRecDepth 100000 in
set_option maxHeartbeats 4000000 in
theorem dsame_dk {w : World} {p bm room p2 bm2 room2 : Nat} {L L2 : List Fil} (h : Dk w p bm room L) (h2 : Dk w p2 bm2 room2 L2) :
    Calls Try.prog 19 #[.pointer (some ⟨p, 0, none⟩), .pointer (some ⟨p2, 0, none⟩)] w fun e w' => e = .returned (.bool (decide (room = room2 ∧ L.map core = L2.map core))) ∧ Below w.heap.size w w' := by
  have H := Lib.hid h
  have H2 := Lib.hid h2
  clear h h2
  refine (callsIn_wide (n := 6)).1 ?_
  refine callsIn_of_wp_marks Try.func19 rfl trivial ?_ rfl
  simp only [Try.ntmps19, List.size_toArray, List.length_cons, List.length_nil, Nat.reduceAdd, Nat.reduceSub, Array.replicate_succ, Array.replicate_zero, List.push_toArray, List.append_toArray, List.nil_append, List.cons_append]
  gi_wp2_with fail
  obtain ⟨W0, hW0⟩ : ∃ W0, ((w.alloc (.cells #[.pointer (some ⟨p, 0, none⟩)] 23)).alloc (.cells #[.pointer (some ⟨p2, 0, none⟩)] 23)).alloc (.cells #[.bool false] 4) = W0 := ⟨_, rfl⟩
  have hb0 : Below w.heap.size w W0 := by rw [← hW0]; exact (((Below.refl _ w).alloc (Nat.le_refl _) _).alloc (by simp) _).alloc (by simp; omega) _
  have b1 : BoxC W0 w.heap.size #[.pointer (some ⟨p, 0, none⟩)] 23 := by rw [← hW0]; exact ((BoxC.new w _ 23).alloc _).alloc _
  have b2 : BoxC W0 (w.heap.size + 1) #[.pointer (some ⟨p2, 0, none⟩)] 23 := by
    rw [← hW0]; have := (BoxC.new (w.alloc (.cells #[.pointer (some ⟨p, 0, none⟩)] 23)) #[.pointer (some ⟨p2, 0, none⟩)] 23).alloc (.cells #[.bool false] 4)
    simpa using this
  have b3 : BoxC W0 (w.heap.size + 1 + 1) #[.bool false] 4 := by
    rw [← hW0]; have := BoxC.new ((w.alloc (.cells #[.pointer (some ⟨p, 0, none⟩)] 23)).alloc (.cells #[.pointer (some ⟨p2, 0, none⟩)] 23)) #[.bool false] 4
    simpa using this
  have hsz : W0.heap.size = w.heap.size + 3 := by rw [← hW0]; simp
  rw [hW0]
  clear hW0
  have HD := Lib.hid (H.out.below hb0)
  have HD2 := Lib.hid (H2.out.below hb0)
  have c1 : W0.cell? ⟨w.heap.size, 0, none⟩ = some (.pointer (some ⟨p, 0, none⟩)) := b1.cell 0
  have c2 : W0.cell? ⟨w.heap.size + 1, 0, none⟩ = some (.pointer (some ⟨p2, 0, none⟩)) := b2.cell 0
  have c3 : W0.cell? ⟨w.heap.size + 1 + 1, 0, none⟩ = some (.bool false) := b3.cell 0
  have c3f := b3.frozen 0
  have B1 := Lib.hid b1
  have B2 := Lib.hid b2
  have B3 := Lib.hid b3
  have HB := Lib.hid hb0
  clear b1 b2 b3 hb0
  refine ⟨trivial, ?_⟩
  refine (callsIn_wide.2 (dnone_law HD.out)).mono ?_
  rintro e w' ⟨rfl, rfl⟩
  gi_wp2_with fail
  refine ⟨trivial, ?_⟩
  refine (callsIn_wide.2 (dnone_law HD2.out)).mono ?_
  rintro e w' ⟨rfl, rfl⟩
  have e1 := HD.out.c0
  have e2 := HD.out.c1
  have e3 := HD2.out.c0
  have e4 := HD2.out.c1
  have e5 := len_any HD.out
  have e6 := len_any HD2.out
  gi_wp2_with fail
  have fin : ∀ (W : World) (b : Bool), BoxC W (w.heap.size + 1 + 1) #[.bool b] 4 → True := fun _ _ _ => trivial
  by_cases hr : room = room2
  · have d1 : ((room : Int) != (room2 : Int)) = false := by rw [hr]; simp
    by_cases hl : L.length = L2.length
    · have d2 : ((L.length : Int) != (L2.length : Int)) = false := by rw [hl]; simp
      gi_quiet (fail)
      gi_wp2_with fail
      refine ⟨trivial, ?_⟩
      refine (callsIn_wide.2 (c_all (some ⟨p, 0, none⟩) _)).mono ?_
      rintro e w' ⟨rfl, rfl⟩
      gi_wp2_with fail
      obtain ⟨W5, hW5⟩ : ∃ W5, (W0.drewN nq).alloc (.cells #[.pointer (some ⟨p, 0, none⟩)] 23) = W5 := ⟨_, rfl⟩
      have bA : BoxC W5 (w.heap.size + 3) #[.pointer (some ⟨p, 0, none⟩)] 23 := by rw [← hW5, ← hsz]; exact BoxC.new (W0.drewN nq) _ 23
      have hb5 : Below W0.heap.size W0 W5 := by rw [← hW5]; exact (below_drewN (Below.refl _ _) nq).alloc (Nat.le_refl _) _
      have hs5 : W5.heap.size = w.heap.size + 4 := by
        rw [← hW5, World.size_alloc, show (W0.drewN nq).heap.size = W0.heap.size from rfl, hsz]
      rw [hW5]
      clear hW5
      have HB5 := Lib.hid hb5
      have HD5 := Lib.hid (HD.out.below hb5)
      have HD52 := Lib.hid (HD2.out.below hb5)
      clear c1 c2 c3 c3f e1 e2 e3 e4 e5 e6 hb5
      refine wp_range_x1 rfl (by omega) (gf := 102) (lb := #[.pointer (some ⟨w.heap.size + 3, 0, none⟩)]) rfl trivial (enters_of Try.func102 (by kernel_rfl) rfl)
        (all_x 5 (by omega) (O := fun _ => True) ⟨L, HD5.out, rfl, fun _ _ => trivial⟩ (w.heap.size + 3) bA) KpA.trans (fun A => KpA.refl _ A) (fun W l o o' h1 h2 h3 h4 => KpA.put W l o o' h1 h2 h3 h4)
        (fun k x W l o o' h1 h2 h3 h4 hp => hp.kp (KpA.put W l o o' h1 h2 h3 h4)) (fun _ => rfl)
        (fun k W => Below W5.heap.size W5 W ∧ ∀ j < k, ∃ c, (L.map core)[j]? = some c ∧ cFind (L2.map core) c.1 = some c)
        (fun k W => (BoxC W (w.heap.size + 1 + 1) #[.bool false] 4 ∧ Below w.heap.size w W) ∧ ∃ c, (L.map core)[k]? = some c ∧ cFind (L2.map core) c.1 ≠ some c)
        (OwnFrom.and (ownFrom_below (Nat.le_refl _) (Nat.le_refl _)) (ownFrom_pure _ _))
        (OwnFrom.and (OwnFrom.and (Own.from (fun s X Y row hs hg hr => BoxC.own hs hg hr) _) (ownFrom_below (Nat.le_refl _) (by omega))) (ownFrom_pure _ _))
        ⟨Below.refl _ _, fun j hj => absurd hj (by omega)⟩
        ?a1 ?assign ?body ?done ?stop
      case assign =>
        rintro l x W K hK
        dsimp only [encA]
        gi_wp2
        exact hK
      case body =>
        rintro l k x W hk ⟨hbw, hseen⟩ hpx
        have hB4 := HB5.out.trans (hbw.mono HB5.out.size)
        have hbW := HB.out.trans (hB4.mono HB.out.size)
        have hd := HD5.out.below hbw
        have hd2 := HD52.out.below hbw
        have c1 : W.cell? ⟨w.heap.size, 0, none⟩ = some (.pointer (some ⟨p, 0, none⟩)) := (B1.out.below hB4).cell 0
        have c2 : W.cell? ⟨w.heap.size + 1, 0, none⟩ = some (.pointer (some ⟨p2, 0, none⟩)) := (B2.out.below hB4).cell 0
        have c3f : W.frozen? ⟨w.heap.size + 1 + 1, 0, none⟩ = false := (B3.out.below hB4).frozen 0
        have c3 : W.cell? ⟨w.heap.size + 1 + 1, 0, none⟩ = some (.bool false) := (B3.out.below hB4).cell 0
        have BR := Lib.hid (B3.out.below hB4)
        have e2 := hd.c1
        have e4 := hd2.c1
        have HPX := Lib.hid hpx
        have HSEEN := Lib.hid hseen
        have HBW := Lib.hid hbw
        have HBB := Lib.hid hbW
        obtain ⟨fa, hfa⟩ : ∃ fa, L[k]? = some fa := by
          have := hpx.at_
          rw [List.getElem?_map] at this
          cases hq : L[k]? with
          | none => rw [hq] at this; cases this
          | some fa => exact ⟨fa, rfl⟩
        have hcx : core fa = core x := by
          have := hpx.at_
          rw [List.getElem?_map, hfa] at this
          exact Option.some.inj this
        have hfm := List.mem_of_getElem? hfa
        have hnm : fa.nm = x.nm := congrArg (·.1) hcx
        have hla : fa.last = x.last := congrArg (·.2.2) hcx
        have hsx : x.nm.size ≤ maxLen := by rw [← hnm]; exact may_size (hd.ok.nms fa hfm)
        have HFC := Lib.hid (find_core L2 x.nm)
        have hszW : W5.heap.size ≤ W.heap.size := hbw.size
        cases hlk : look L2 x.nm with
        | none =>
          have q1 := look_run_no hd2 hsx hlk
          have HBAD := Lib.hid (show ∃ c, (L.map core)[k]? = some c ∧ cFind (L2.map core) c.1 ≠ some c from ⟨core x, hpx.at_, by rw [show (core x).1 = x.nm from rfl, HFC.out, hlk]; simp⟩)
          clear hfa hcx hfm hnm hla hsx hlk hpx hseen hbw hbW hB4 hd hd2
          gi_wp2_with fail
          obtain ⟨W6, hW6⟩ : ∃ W6, W.alloc (.cells #[.slice none 0 0, .int .i64 0] 118) = W6 := ⟨_, rfl⟩
          have hb6 : Below W.heap.size W W6 := by rw [← hW6]; exact bl1 _ _
          have y3 : W6.frozen? ⟨w.heap.size + 1 + 1, 0, none⟩ = false := (hb6.frozen (cell_lt c3)).trans c3f
          have y4 : W6.cell? ⟨w.heap.size + 1 + 1, 0, none⟩ = some (.bool false) := (hb6.cell (cell_lt c3)).trans c3
          have HB6 := Lib.hid hb6
          rw [hW6]
          clear hW6 hb6
          refine quiet_round rfl (by kernel_rfl) (by kernel_rfl) (by kernel_rfl) ?_
          repeat (gi_big_quiet_step (fail))
          refine BigFrame.wpQuietIn_skip (fun _ _ _ _ => trivial) rfl ?_
          simp only [Act.put, List.setIfInBounds_toArray, List.set_cons_zero, List.set_cons_succ]
          repeat (gi_big_quiet_step (fail))
          refine wpQuietIn_nil ?_
          intro _ hw'
          obtain ⟨nq, hw''⟩ := hw'
          subst hw''
          gi_wp2
          exact ret_end HB6.out nq (Nat.le_of_lt (by omega)) HBB.out BR.out HBAD.out
        | some g =>
          have q1 := look_run hd2 hsx hlk
          obtain ⟨hgm, hgn⟩ := look_mem hlk
          obtain ⟨W6, hW6⟩ : ∃ W6, W.alloc (.cells #[.slice g.ad g.bs.length g.cap, .int .i64 g.last] 118) = W6 := ⟨_, rfl⟩
          have hb6 : Below W.heap.size W W6 := by rw [← hW6]; exact bl1 _ _
          have q2 : ∀ n, (Instr.lookup 92 (.map (some bm)) (.string x.nm) false).run Try.prog (W6.drewN n) = .ok (.agg #[.slice fa.ad fa.bs.length fa.cap, .int .i64 fa.last]) (W6.drewN n) := fun n => by
            have := look_at ((hd.below hb6).below (below_drewN (Below.refl _ _) n)) hfm
            rwa [hnm] at this
          have q3 : ∀ n, (Instr.field 118 (.agg #[.slice fa.ad fa.bs.length fa.cap, .int .i64 fa.last]) 1).run Try.prog (W6.drewN n) = .ok (.int .i64 fa.last) (W6.drewN n) := fun n => field1 _ _ _ _ _
          have hbx : BoxC W6 W.heap.size #[.slice g.ad g.bs.length g.cap, .int .i64 g.last] 118 := by rw [← hW6]; exact BoxC.new _ _ _
          have x0 : W6.cell? ⟨W.heap.size, 0, none⟩ = some (.slice g.ad g.bs.length g.cap) := hbx.cell 0
          have x1 : W6.cell? ⟨W.heap.size, 1, none⟩ = some (.int .i64 g.last) := hbx.cell 1
          have y1 : W6.cell? ⟨w.heap.size, 0, none⟩ = some (.pointer (some ⟨p, 0, none⟩)) := (hb6.cell (cell_lt c1)).trans c1
          have y2 : W6.cell? ⟨p, 1, none⟩ = some (.map (some bm)) := (hb6.cell (cell_lt e2)).trans e2
          have y3 : W6.frozen? ⟨w.heap.size + 1 + 1, 0, none⟩ = false := (hb6.frozen (cell_lt c3)).trans c3f
          have y4 : W6.cell? ⟨w.heap.size + 1 + 1, 0, none⟩ = some (.bool false) := (hb6.cell (cell_lt c3)).trans c3
          have hbx3 : fa.bs = x.bs := congrArg (·.2.1) hcx
          have HEQ := Lib.hid (fun n => equal_law g.ad x.ad g.bs x.bs _ _ g.cap x.cap rfl rfl (hd2.ok.byt g hgm) (by
            have := hd.ok.byt fa hfm
            rwa [hbx3] at this) (W6.drewN n) ((((hd2.rows g hgm).ls.below hb6)).below (below_drewN (Below.refl _ _) n)) ((hpx.row.ls.below hb6).below (below_drewN (Below.refl _ _) n)))
          have HB6 := Lib.hid hb6
          have HLK := Lib.hid (show cFind (L2.map core) x.nm = some (core g) by rw [HFC.out, hlk]; rfl)
          have HAT := Lib.hid hpx.at_
          have HGN := Lib.hid hgn
          by_cases hls : g.last = x.last
          · have d3 : ((g.last : Int) != (fa.last : Int)) = false := by rw [hls, hla]; simp
            by_cases hbs : g.bs = x.bs
            · have HCG := Lib.hid (show core g = core x by unfold core; rw [hgn, hbs, hls])
              have HEQ2 := Lib.hid (fun n => by have := HEQ.out n; rw [decide_eq_true hbs] at this; exact this)
              clear hfa hcx hfm hnm hla hsx hlk hpx hseen hbw hbW hB4 hd hd2 hb6 hbx hls hgn hgm hbx3 HEQ hbs
              gi_wp2_with fail
              try rw [hW6]
              clear hW6
              refine quiet_round rfl (by kernel_rfl) (by kernel_rfl) (by kernel_rfl) ?_
              repeat (gi_big_quiet_step (fail))
              refine BigFrame.wpQuietIn_want (fun _ _ _ _ => trivial) rfl ?_
              intro K hK
              gi_big_quiet_op
              refine ⟨.bool true, fun n => (callsIn_wide.2 (HEQ2.out n)).mono ?_, hK _ ?_⟩
              · rintro e w'' ⟨rfl, rfl⟩
                exact ⟨rfl, n, rfl⟩
              repeat (gi_big_quiet_step (fail))
              refine wpQuietIn_nil ?_
              intro _ hw'
              obtain ⟨nq, hw''⟩ := hw'
              subst hw''
              gi_wp2
              refine ⟨keeps_below (drew_below HB6.out nq), KpA.below (drew_below HB6.out nq), (step_below HBW.out (drew_below HB6.out nq)), fun j hj => ?_⟩
              by_cases e : j = k
              · subst e
                exact ⟨core x, HAT.out, by rw [show (core x).1 = x.nm from rfl, HLK.out, HCG.out]⟩
              · exact HSEEN.out j (by omega)
            · have HBAD := Lib.hid (show ∃ c, (L.map core)[k]? = some c ∧ cFind (L2.map core) c.1 ≠ some c from ⟨core x, hpx.at_, by
                rw [show (core x).1 = x.nm from rfl, HLK.out]
                intro e
                exact hbs (congrArg (·.2.1) (Option.some.inj e))⟩)
              have HEQ2 := Lib.hid (fun n => by have := HEQ.out n; rw [decide_eq_false hbs] at this; exact this)
              clear hfa hcx hfm hnm hla hsx hlk hpx hseen hbw hbW hB4 hd hd2 hb6 hbx hls hgn hgm hbx3 HEQ hbs
              gi_wp2_with fail
              try rw [hW6]
              clear hW6
              refine quiet_round rfl (by kernel_rfl) (by kernel_rfl) (by kernel_rfl) ?_
              repeat (gi_big_quiet_step (fail))
              refine BigFrame.wpQuietIn_want (fun _ _ _ _ => trivial) rfl ?_
              intro K hK
              gi_big_quiet_op
              refine ⟨.bool false, fun n => (callsIn_wide.2 (HEQ2.out n)).mono ?_, hK _ ?_⟩
              · rintro e w'' ⟨rfl, rfl⟩
                exact ⟨rfl, n, rfl⟩
              repeat (gi_big_quiet_step (fail))
              refine wpQuietIn_nil ?_
              intro _ hw'
              obtain ⟨nq, hw''⟩ := hw'
              subst hw''
              gi_wp2
              exact ret_end HB6.out nq (Nat.le_of_lt (by omega)) HBB.out BR.out HBAD.out
          · have d3 : ((g.last : Int) != (fa.last : Int)) = true := by simp; omega
            have HBAD := Lib.hid (show ∃ c, (L.map core)[k]? = some c ∧ cFind (L2.map core) c.1 ≠ some c from ⟨core x, hpx.at_, by
              rw [show (core x).1 = x.nm from rfl, HLK.out]
              intro e
              exact hls (congrArg (·.2.2) (Option.some.inj e))⟩)
            clear hfa hcx hfm hnm hla hsx hlk hpx hseen hbw hbW hB4 hd hd2 hb6 hbx hls hgn hgm hbx3 HEQ
            gi_wp2_with fail
            try rw [hW6]
            clear hW6
            refine quiet_round rfl (by kernel_rfl) (by kernel_rfl) (by kernel_rfl) ?_
            repeat (gi_big_quiet_step (fail))
            refine BigFrame.wpQuietIn_skip (fun _ _ _ _ => trivial) rfl ?_
            simp only [Act.put, List.setIfInBounds_toArray, List.set_cons_zero, List.set_cons_succ]
            repeat (gi_big_quiet_step (fail))
            refine wpQuietIn_nil ?_
            intro _ hw'
            obtain ⟨nq, hw''⟩ := hw'
            subst hw''
            gi_wp2
            exact ret_end HB6.out nq (Nat.le_of_lt (by omega)) HBB.out BR.out HBAD.out
      case done =>
        rintro D W hD ⟨hbw, hseen⟩ hK
        have hB4 := HB5.out.trans (hbw.mono HB5.out.size)
        have hbW := HB.out.trans (hB4.mono HB.out.size)
        have bR := B3.out.below hB4
        have c3f : W.frozen? ⟨w.heap.size + 1 + 1, 0, none⟩ = false := bR.frozen 0
        have c3 : W.cell? ⟨w.heap.size + 1 + 1, 0, none⟩ = some (.bool false) := bR.cell 0
        have HT := Lib.hid (show decide (room = room2 ∧ L.map core = L2.map core) = true from decide_eq_true ⟨hr, same_of (O := fun _ => True) (O' := fun _ => True) ⟨L, H.out, rfl, fun _ _ => trivial⟩ ⟨L2, H2.out, rfl, fun _ _ => trivial⟩ (by rw [List.length_map, List.length_map]; exact hl) (fun c hc => by
          obtain ⟨j, hj⟩ := List.getElem?_of_mem hc
          obtain ⟨c2, h2, h3⟩ := hseen j (List.getElem?_eq_some_iff.1 hj).1
          rw [hj] at h2
          cases h2
          exact h3)⟩)
        have BR := Lib.hid bR
        have HBB := Lib.hid hbW
        have hK2 : (W.setCell ⟨w.heap.size + 1 + 1, 0, none⟩ (.bool true)).heap[D]? = some (.deferred (some [])) := (KeepsOthers.setCell W ⟨w.heap.size + 1 + 1, 0, none⟩ (.bool true)).same D _ hK rfl
        have HK := Lib.hid hK2
        clear hbw hseen hB4 hbW bR hK hK2
        gi_wp2_with fail
        have bR2 : BoxC (W.setCell ⟨w.heap.size + 1 + 1, 0, none⟩ (.bool true)) (w.heap.size + 1 + 1) #[.bool true] 4 := BR.out.put 0 (.bool true)
        have b2 : Below w.heap.size w (W.setCell ⟨w.heap.size + 1 + 1, 0, none⟩ (.bool true)) := HBB.out.setCell (p := ⟨w.heap.size + 1 + 1, 0, none⟩) (by simp; omega) _
        have hK3 := HK.out
        generalize W.setCell ⟨w.heap.size + 1 + 1, 0, none⟩ (.bool true) = W2 at bR2 b2 hK3 ⊢
        refine ⟨by simp, .inl ⟨_, _, rfl, run_takeDeferred hK3, ?_⟩⟩
        have bR3 := bR2.kept (grownBy_putObj' W2 D (.deferred none)) (fun e => by cases e; omega)
        have h0 : (W2.putObj D (.deferred none)).cell? ⟨w.heap.size + 1 + 1, 0, none⟩ = some (.bool true) := bR3.cell 0
        refine ⟨.bool true, ?_, by rw [HT.out], b2.trans (belowK_b (w := w) (Nat.le_refl _) _ D _ _ (by omega) hK3 rfl rfl)⟩
        simp [results, Try.f19, go_sem, h0]
      case stop =>
        rintro D k W hD hk ⟨⟨bR, hbW⟩, c, hc1, hc2⟩ hK
        have HF := Lib.hid (show decide (room = room2 ∧ L.map core = L2.map core) = false from decide_eq_false (fun h => hc2 (by
          rw [← h.2]
          exact find_self (O := fun _ => True) ⟨L, H.out, rfl, fun _ _ => trivial⟩ (List.mem_of_getElem? hc1))))
        clear hc1 hc2
        gi_wp2
        refine ⟨by simp, .inl ⟨_, _, rfl, run_takeDeferred hK, ?_⟩⟩
        have bR3 := bR.kept (grownBy_putObj' W D (.deferred none)) (fun e => by cases e; omega)
        have h0 : (W.putObj D (.deferred none)).cell? ⟨w.heap.size + 1 + 1, 0, none⟩ = some (.bool false) := bR3.cell 0
        refine ⟨.bool false, ?_, by rw [HF.out], hbW.trans (belowK_b (w := w) (Nat.le_refl _) _ D _ _ (by omega) hK rfl rfl)⟩
        simp [results, Try.f19, go_sem, h0]
    · have d2 : ((L.length : Int) != (L2.length : Int)) = true := by simp; omega
      have HF := Lib.hid (show decide (room = room2 ∧ L.map core = L2.map core) = false from decide_eq_false (fun h => hl (by have := congrArg List.length h.2; rwa [List.length_map, List.length_map] at this)))
      gi_quiet (fail)
      gi_wp2_with fail
      have bR2 : BoxC ((W0.drewN nq).setCell ⟨w.heap.size + 1 + 1, 0, none⟩ (.bool false)) (w.heap.size + 1 + 1) #[.bool false] 4 := (B3.out.below (below_drewN (Below.refl _ _) nq)).put 0 (.bool false)
      have b2 : Below w.heap.size w ((W0.drewN nq).setCell ⟨w.heap.size + 1 + 1, 0, none⟩ (.bool false)) := (below_drewN HB.out nq).setCell (p := ⟨w.heap.size + 1 + 1, 0, none⟩) (by simp; omega) _
      generalize (W0.drewN nq).setCell ⟨w.heap.size + 1 + 1, 0, none⟩ (.bool false) = W2 at bR2 b2 ⊢
      have h0 : W2.cell? ⟨w.heap.size + 1 + 1, 0, none⟩ = some (.bool false) := bR2.cell 0
      refine ⟨.bool false, ?_, by rw [HF.out], b2⟩
      simp [results, Try.f19, go_sem, h0]
  · have d1 : ((room : Int) != (room2 : Int)) = true := by simp; omega
    have HF := Lib.hid (show decide (room = room2 ∧ L.map core = L2.map core) = false from decide_eq_false (fun h => hr h.1))
    gi_quiet (fail)
    gi_wp2_with fail
    have bR2 : BoxC ((W0.drewN nq).setCell ⟨w.heap.size + 1 + 1, 0, none⟩ (.bool false)) (w.heap.size + 1 + 1) #[.bool false] 4 := (B3.out.below (below_drewN (Below.refl _ _) nq)).put 0 (.bool false)
    have b2 : Below w.heap.size w ((W0.drewN nq).setCell ⟨w.heap.size + 1 + 1, 0, none⟩ (.bool false)) := (below_drewN HB.out nq).setCell (p := ⟨w.heap.size + 1 + 1, 0, none⟩) (by simp; omega) _
    generalize (W0.drewN nq).setCell ⟨w.heap.size + 1 + 1, 0, none⟩ (.bool false) = W2 at bR2 b2 ⊢
    have h0 : W2.cell? ⟨w.heap.size + 1 + 1, 0, none⟩ = some (.bool false) := bR2.cell 0
    refine ⟨.bool false, ?_, by rw [HF.out], b2⟩
    simp [results, Try.f19, go_sem, h0]
/-- Same (19). -/
theorem c_same {w : World} {p bm room p2 bm2 room2 : Nat} {C C2 : List CF} {O O2 : Nat → Prop} (h : DC w p bm room C O) (h2 : DC w p2 bm2 room2 C2 O2) :
    Calls Try.prog 19 #[.pointer (some ⟨p, 0, none⟩), .pointer (some ⟨p2, 0, none⟩)] w fun e w' => e = .returned (.bool (decide (room = room2 ∧ C = C2))) ∧ Below w.heap.size w w' := by
  obtain ⟨L, a, rfl, _⟩ := h
  obtain ⟨L2, b, rfl, _⟩ := h2
  exact dsame_dk a b
end Go.Proofs.Ytbjhcbiihekceaa
