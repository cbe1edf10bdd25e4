/- ModelReads: a transaction that reads alone writes nothing, and is answered the same again and again; for every input. Part 8. -/
import Derived.Test.YthmofoldmdafoaaGreatRrg
import Derived.Shelf.SlSortCmp.WholeK
import Derived.Shelf.SlSortCmp.NoneTotal
import Derived.Ground.SlsfProg
import Derived.Test.YthmofoldmdafoaaGreatProg
import Derived.Test.YthmofoldmdafoaaGreatRre
import Derived.Maps.AppendAt
import Derived.RangeFuncNested
import Derived.RangeFuncBound
import Derived.RangeFuncCalls
import Derived.RangeFuncLeaves
import Derived.Shelf.Abstract
import Derived.Shelf.RegionOpen
import Derived.OwnWalkIn
import Derived.TacticsInMore
import Derived.LoopNIn
import Derived.LoopIn
import Derived.Maps.OwnIn
import Derived.Sort.MapsRangeIn
import Derived.Test.YthmofoldmdafoaaGreatRra
namespace Go.Proofs.YthmofoldmdafoaaGreat
open Go.ChangeShapes Go.WideShapes Go.ChangeAt Go.RowKit Go.Maps
set_option linter.unusedVariables false
set_option linter.unusedSimpArgs false

/-- Writes in plain words: of which table, a key's row, none: no row. -/
abbrev Ws := List (Nat × List Int × List (List Int))
/-- A call in plain words: what is answered, and what is written behind it. -/
def callP (j : Job) (T : List (List Pr)) (ws : Ws) (o : CallV) : (Int × List Pr) × Ws :=
  if o.k = 1 then ((match getWP T ws o.t.toNat o.K with | some R => (0, [(o.K, R)]) | none => (6, [])), ws)
  else if o.k = 2 then ((0, []), setW ws o.t.toNat o.K (o.R.map P1.bs))
  else if o.k = 3 then (if (getWP T ws o.t.toNat o.K).isSome then ((7, []), ws) else ((0, []), setW ws o.t.toNat o.K (o.R.map P1.bs)))
  else if o.k = 4 then (if (getWP T ws o.t.toNat o.K).isSome then ((0, []), setW ws o.t.toNat o.K []) else ((6, []), ws))
  else if o.k = 5 then ((0, winG Prod.fst o.K o.T (decide (0 < o.tn)) o.m ((overT T ws).getD o.t.toNat []) []), ws)
  else ((0, (winG Prod.fst (frontL o.K) (frontL o.T) (decide (0 < o.tn)) o.m (lookE j o.t (trV j o.t o.i).1 ((overT T ws).getD o.t.toNat [])) []).map Prod.snd), ws)
theorem setW_len (ws : Ws) (t : Nat) (K : List Int) (R : List (List Int)) : (setW ws t K R).length ≤ ws.length + 1 := by
  unfold setW
  split
  · rw [List.length_map]; omega
  · rw [List.length_append]; simp
theorem callP_len (j : Job) (T : List (List Pr)) (ws : Ws) (o : CallV) : (callP j T ws o).2.length ≤ ws.length + 1 := by
  unfold callP
  split
  · show ws.length ≤ _; omega
  · split
    · exact setW_len _ _ _ _
    · split
      · split
        · show ws.length ≤ _; omega
        · exact setW_len _ _ _ _
      · split
        · split
          · exact setW_len _ _ _ _
          · show ws.length ≤ _; omega
        · split
          · show ws.length ≤ _; omega
          · show ws.length ≤ _; omega
theorem kf0_in {k : Int} (h : kf k 0 = true) : 1 ≤ k ∧ k ≤ 6 := by
  by_cases h1 : k < 0 ∨ 6 < k
  · rw [kf_out k h1] at h; cases h
  · have h2 : 0 ≤ k ∧ k ≤ 6 := by omega
    by_cases h3 : k = 0
    · subst h3; revert h; decide
    · omega
theorem pO_kind {j : Job} {o : CallV} (h : pO j o = true) : 1 ≤ o.k ∧ o.k ≤ 6 := by
  unfold pO at h
  simp only [Bool.and_eq_true] at h
  exact kf0_in h.1.1.1.1.1.2
theorem pO_key {j : Job} {o : CallV} (h : pO j o = true) (h3 : kf o.k 3 = false) (hl : o.K.length = o.kn) (hb : Byt o.K) : keyOk o.K := by
  unfold pO endB at h
  rw [if_neg (by rw [h3]; simp)] at h
  simp only [Bool.and_eq_true] at h
  have := h.2.1.1
  rw [← hl] at this
  exact mayK_ok this hb
theorem pO_row {j : Job} {o : CallV} (h : pO j o = true) (hl : o.R.length = o.rn) (hb : ∀ p ∈ o.R, Byt p.bs) : o.R ≠ [] → rOk (o.R.map P1.bs) := fun hne => by
  unfold pO at h
  simp only [Bool.and_eq_true] at h
  have h2 := h.1.1.2
  have h3 := h.1.2
  have hp : 0 < o.rn := by rw [← hl]; exact List.length_pos_iff.2 hne
  rw [decide_eq_true hp] at h2
  have h2 : kf o.k 2 = true := by simpa using h2
  rw [h2] at h3
  exact mayR_rOk (by simpa using h3) hb
theorem OpS.g {S : Nat → Prop} {w : World} {m : Md} {o : CallV} {t : Nat} (h : OpS S w m o t) (hk : o.k < 5) : OpG S w m o t := by
  have hc := h.at'.now
  exact ⟨h.at', h.te, h.tl, pO_key h.po (by rw [kf3_eq]; simp; omega) hc.kl hc.kb, pO_row h.po hc.rl hc.rb⟩
/-- A call of any kind. -/
theorem tcall_law (hsort : ESort) {S : Nat → Prop} {base : Nat} {w : World} {m : Md} {x : Tl} (h : TlR S base w m x) (hbs : base ≤ w.heap.size) (o : CallV) (t : Nat) (ho : OpS S w m o t) (hws : x.ws.length < 1000) (hf : ∀ z ∈ m.tabs, z.2.length ≤ 300000) (k : Nat) (hk : o.k = (k : Int)) :
    Calls Tryz.prog (122 + k) #[.pointer (some ⟨x.px, 0, none⟩), .agg #[.int .i64 o.k, .int .i64 o.t, .int .i64 o.i, .slice o.ka o.kn o.kc, .slice o.ta o.tn o.tc, .int .i64 o.m, .slice o.ra o.rn o.rc]] w (CallR S base w m x (callP m.j m.P (x.ws.map WtV.P) o).1 (callP m.j m.P (x.ws.map WtV.P) o).2) := by
  have hkk := pO_kind ho.po
  have ht : o.t.toNat = t := by rw [ho.te]; simp
  have e9 : ∀ z ∈ m.tabs, z.2.length ≤ 900000 := fun z hz => by have := hf z hz; omega
  unfold callP
  rw [ht]
  match k, hk with
  | 0, hk => omega
  | 1, hk =>
    have hk : o.k = 1 := hk
    rw [if_pos hk]
    exact tread_law h hbs o t (ho.g (by omega)) hws
  | 2, hk =>
    have hk : o.k = 2 := hk
    rw [if_neg (by omega), if_pos hk]
    exact tput_law h hbs o t (ho.g (by omega)) hws
  | 3, hk =>
    have hk : o.k = 3 := hk
    rw [if_neg (by omega), if_neg (by omega), if_pos hk]
    have := tinsert_law h hbs o t (ho.g (by omega)) hws
    split
    · rename_i hs
      rw [if_pos hs, if_pos hs] at this; exact this
    · rename_i hs
      rw [if_neg hs, if_neg hs] at this; exact this
  | 4, hk =>
    have hk : o.k = 4 := hk
    rw [if_neg (by omega), if_neg (by omega), if_neg (by omega), if_pos hk]
    have := tremove_law h hbs o t (ho.g (by omega)) hws
    split
    · rename_i hs
      rw [if_pos hs, if_pos hs] at this; exact this
    · rename_i hs
      rw [if_neg hs, if_neg hs] at this; exact this
  | 5, hk =>
    have hk : o.k = 5 := hk
    rw [if_neg (by omega), if_neg (by omega), if_neg (by omega), if_neg (by omega), if_pos hk]
    exact tscan_law h hbs o t ho hk e9
  | 6, hk =>
    have hk : o.k = 6 := hk
    rw [if_neg (by omega), if_neg (by omega), if_neg (by omega), if_neg (by omega), if_neg (by omega), ho.te]
    have := tlook_law hsort h hbs o t ho hk hf
    rw [ho.te] at this
    exact this
  | k + 7, hk => omega
/-- Calls, one behind the other. -/
def stepP (j : Job) (T : List (List Pr)) (st : List (Int × List Pr) × Ws) (o : CallV) : List (Int × List Pr) × Ws := (st.1 ++ [(callP j T st.2 o).1], (callP j T st.2 o).2)
def runP (j : Job) (T : List (List Pr)) (ops : List CallV) : List (Int × List Pr) × Ws := ops.foldl (stepP j T) ([], [])
theorem runP_take (j : Job) (T : List (List Pr)) {ops : List CallV} {k : Nat} {o : CallV} (h : ops[k]? = some o) : runP j T (ops.take (k + 1)) = stepP j T (runP j T (ops.take k)) o := by
  unfold runP
  rw [List.take_add_one, h, List.foldl_append]
  rfl
theorem runP_len (j : Job) (T : List (List Pr)) (ops : List CallV) : (runP j T ops).1.length = ops.length ∧ (runP j T ops).2.length ≤ ops.length := by
  induction ops using snocInd with
  | nil => exact ⟨rfl, Nat.le_refl _⟩
  | append_singleton l o ih =>
    have e : runP j T (l ++ [o]) = stepP j T (runP j T l) o := by unfold runP; rw [List.foldl_append]; rfl
    rw [e]
    have := callP_len j T (runP j T l).2 o
    unfold stepP
    refine ⟨?_, ?_⟩
    · show ((runP j T l).1 ++ [_]).length = _
      rw [List.length_append, ih.1, List.length_append]
      rfl
    · show (callP j T (runP j T l).2 o).2.length ≤ _
      rw [List.length_append, List.length_singleton]
      omega
end Go.Proofs.YthmofoldmdafoaaGreat
namespace Go.Proofs.YthmofoldmdafoaaGreat
open Go.ChangeShapes Go.WideShapes Go.ChangeAt Go.RowKit Go.Maps
set_option linter.unusedVariables false
set_option linter.unusedSimpArgs false

/-- May a trial be, and how it ends. -/
structure TrO (S : Nat → Prop) (base : Nat) (w : World) (m : Md) (px : Nat) (wv rv : Value) (ws : List WtV) (rs : List ResV) : Prop where
  md : MdR S w m
  bd : ∀ k, S k → k < w.heap.size
  c2 : w.cell? ⟨px, 2, none⟩ = some wv
  c3 : w.cell? ⟨px, 3, none⟩ = some rv
  own : w.ownsRow base 84 3 wv ws.length (cellsOf wcl ws)
  wst : ∀ y ∈ ws, Stay S w (fun W' => Ls .u8 W' y.ka y.kc y.K ∧ RdR W' y.r.ra y.r.R)
  wok : ∀ y ∈ ws, y.t < m.tabs.length ∧ keyOk y.K ∧ (y.r.R ≠ [] → rOk y.r.P)
  rown : w.ownsRow base 81 2 rv rs.length (cellsOf rcl rs)
  rst : ∀ y ∈ rs, Stay S w (fun W' => PairsR W' y.pa y.P)
  rok : ∀ y ∈ rs, ResOk y
  hw : ∀ g, wv.ownBlock = some g → S g
  hr : ∀ g, rv.ownBlock = some g → S g
  few : ws.length ≤ 16
  lo : base ≤ px
/-- How trial ends. -/
def TrR (S : Nat → Prop) (w : World) (m : Md) (x : TxnV) (r : Ending) (w' : World) : Prop :=
  if mayT m.j x then ∃ S' base px wv rv ws rs, r = .returned (.tuple #[.pointer (some ⟨px, 0, none⟩), .int .i64 0]) ∧ Below w.heap.size w w' ∧ w.heap.size ≤ base ∧ TrO S' base w' m px wv rv ws rs ∧ (∀ k, S k → S' k) ∧ (∀ k, S' k → S k ∨ w.heap.size ≤ k) ∧ rs.map resC = (runP m.j m.P x.ops).1 ∧ ws.map WtV.P = if x.ab then [] else (runP m.j m.P x.ops).2
  else r = .returned (.tuple #[.pointer none, .int .i64 2]) ∧ Below w.heap.size w w'
theorem mayT_facts {j : Job} {x : TxnV} (h : mayT j x = true) : x.on ≤ 16 ∧ ∀ o ∈ x.ops, pO j o = true := by
  unfold mayT at h
  simp only [Bool.and_eq_true, decide_eq_true_eq] at h
  refine ⟨h.1.1.2, fun o ho => ?_⟩
  have := (List.all_eq_true.1 h.2) o ho
  unfold opB at this
  rw [Bool.and_eq_true] at this
  exact this.1
theorem pO_t {j : Job} {o : CallV} (h : pO j o = true) : 0 ≤ o.t ∧ o.t < j.n := by
  unfold pO inB at h
  simp only [Bool.and_eq_true, decide_eq_true_eq] at h
  have := h.1.1.1.1.2
  omega
theorem TlR.c3 {S : Nat → Prop} {base : Nat} {w : World} {m : Md} {x : Tl} (h : TlR S base w m x) : w.cell? ⟨x.px, 3, none⟩ = some x.rv := by rw [h.box.cell]; rfl
theorem ent_g {f : FuncId} {fn : Func} {c : Code} (hf : Tryz.prog.funcs[f]? = some fn) (hn : (fn.name == "runtime.NumGoroutine") = false) (hb : fn.body = some c) (args : Array Value) (w : World) : (callFunc f args).run Tryz.prog w = .ok (.enter f args) w := by
  have h1 : fn.name ≠ "runtime.NumGoroutine" := by simpa using hn
  simp [callFunc, hf, h1, hb]
/-- A call's code is entered. -/
theorem ent22 (k : Nat) (h1 : 1 ≤ k) (h2 : k ≤ 6) (args : Array Value) (w : World) : (callFunc (122 + k) args).run Tryz.prog w = .ok (.enter (122 + k) args) w := by
  match k, h1, h2 with
  | 1, _, _ => exact ent_g Tryz.func123 (by kernel_rfl) rfl args w
  | 2, _, _ => exact ent_g Tryz.func124 (by kernel_rfl) rfl args w
  | 3, _, _ => exact ent_g Tryz.func125 (by kernel_rfl) rfl args w
  | 4, _, _ => exact ent_g Tryz.func126 (by kernel_rfl) rfl args w
  | 5, _, _ => exact ent_g Tryz.func127 (by kernel_rfl) rfl args w
  | 6, _, _ => exact ent_g Tryz.func128 (by kernel_rfl) rfl args w
  | k + 7, _, h => omega
/-- What the reading of a call asks of memory. -/
structure SR (px B b : Nat) (rv : Value) (cs : Array Value) (X : World) : Prop where
  p : ∃ ps, BoxC X px ps 123 ∧ ps[3]? = some rv
  o : BoxC X B cs 74
  m : X.ownsMap Tryz.prog 72 RF b 6 callsD
theorem SR.off {T : Nat → Prop} {px B b : Nat} {rv : Value} {cs : Array Value} {X X' : World} (h : SR px B b rv cs X) (o : Off T X X') (h1 : ¬ T px) (h2 : ¬ T B) (h3 : ¬ T b) : SR px B b rv cs X' := by
  obtain ⟨⟨ps, hp, hv⟩, ho, hm⟩ := h
  exact ⟨⟨ps, o.box hp h1, hv⟩, o.box ho h2, o.map hm h3⟩
theorem SR.c3 {px B b : Nat} {rv : Value} {cs : Array Value} {X : World} (h : SR px B b rv cs X) : X.cell? ⟨px, 3, none⟩ = some rv := by
  obtain ⟨ps, hp, hv⟩ := h.p
  rw [hp.cell]; exact hv
theorem SR.f3 {px B b : Nat} {rv : Value} {cs : Array Value} {X : World} (h : SR px B b rv cs X) : X.frozen? ⟨px, 3, none⟩ = false := by
  obtain ⟨ps, hp, hv⟩ := h.p
  exact hp.frozen 3
theorem SR.call {S S2 : Nat → Prop} {base px B b : Nat} {rv : Value} {cs : Array Value} {W w8 : World} {m : Md} {x1 x2 : Tl} (h : SR px B b rv cs W) (st : TSt S S2 base W m x1 w8 x2) (hpx : x1.px = px) (hrv : x1.rv = rv) (h2 : ¬ Mut x1 B) (h3 : ¬ Mut x1 b) : SR px B b rv cs w8 :=
  ⟨⟨_, by have := st.tl.box; rw [st.px, hpx] at this; exact this, by rw [← hrv, ← st.rv]; rfl⟩, st.off.box h.o h2, st.off.map h.m h3⟩
/-- What a call answered goes behind what was answered. -/
theorem TlR.log {S : Nat → Prop} {base : Nat} {w w7 w8 : World} {m : Md} {x : Tl} (h : TlR S base w m x) (b : Below w.heap.size w w7) (y : ResV) (hp : Stay S w fun W' => PairsR W' y.pa y.P) (v8 : Value) (hown : w8.ownsRow base 81 2 v8 (x.rs.length + 1) (cellsOf rcl (x.rs ++ [y]))) (hg : w7.grownBy w8 x.rv.ownBlock) (hat : v8.ownBlock = x.rv.ownBlock ∨ v8.ownBlock = some w7.heap.size) (hrf : x.rs.length < 1000) :
    TlR (Grow S w.heap.size (w8.setCell ⟨x.px, 3, none⟩ v8).heap.size) base (w8.setCell ⟨x.px, 3, none⟩ v8) m { x with rv := v8, rs := x.rs ++ [y] } ∧ Off (fun k => k = x.px ∨ x.rv.ownBlock = some k) w (w8.setCell ⟨x.px, 3, none⟩ v8) := by
  have o67 : Off (fun k => k = x.px ∨ x.rv.ownBlock = some k) w w7 := Off.of b
  have o78 : Off (fun k => x.rv.ownBlock = some k) w7 w8 := Off.of_row hg
  have o68 : Off (fun k => x.rv.ownBlock = some k) w w8 := (Off.of b).trans o78
  have o89 : Off (fun k => k = x.px) w8 (w8.setCell ⟨x.px, 3, none⟩ v8) := Off.set (S := fun k => k = x.px) (Off.refl _ w8) ⟨x.px, 3, none⟩ rfl _
  have o : Off (fun k => k = x.px ∨ x.rv.ownBlock = some k) w (w8.setCell ⟨x.px, 3, none⟩ v8) := (o68.mono fun k hk => .inr hk).trans (o89.mono fun k hk => .inl hk)
  have hT : ∀ k, (fun k => k = x.px ∨ x.rv.ownBlock = some k) k → S k ∧ base ≤ k := fun k hk => by
    rcases hk with rfl | hk
    · exact ⟨h.hp, h.lo⟩
    · exact ⟨h.hr k hk, (own_blk h.rown hk).1⟩
  have hS' : ∀ k, Grow S w.heap.size (w8.setCell ⟨x.px, 3, none⟩ v8).heap.size k → S k ∨ w.heap.size ≤ k := fun k hk => hk.imp id And.left
  have hsz : (w8.setCell ⟨x.px, 3, none⟩ v8).heap.size = w8.heap.size := by simp
  have hnr : ¬ x.rv.ownBlock = some x.px := fun e => by
    obtain ⟨_, _, cur, hb⟩ := own_blk h.rown e
    exact box_ne hb h.box (by decide) rfl
  have hro : (w8.setCell ⟨x.px, 3, none⟩ v8).ownsRow base 81 2 v8 (x.rs ++ [y]).length (cellsOf rcl (x.rs ++ [y])) := by
    rw [List.length_append, List.length_singleton]
    refine own_offb hown o89 ?_
    intro g hg e
    obtain ⟨_, _, cur, hb⟩ := own_blk hown hg
    exact box_ne hb (o68.box h.box hnr) (by decide) e
  refine ⟨h.next o hT { x with rv := v8, rs := x.rs ++ [y] } rfl rfl rfl rfl rfl (heap_setCell_same w8 x.px 3 _ 123 _ (o68.box h.box hnr)) (fun z hz => (h.wmaps z hz).off o ?_) (own_offb h.own o ?_) hro _ (fun _ h => .inl h) hS' (fun k hk => hk.elim (fun hk => Nat.lt_of_lt_of_le (h.bd k hk) o.size) And.right) (fun g hg => .inl (h.hw g hg)) (fun g hg => ?_) (h.keepw o hT hS') h.wok (fun z hz => ?_) h.coh h.wl h.few (by show (x.rs ++ [y]).length ≤ 1000; rw [List.length_append, List.length_singleton]; omega), o⟩
  · rintro (e | e)
    · exact (h.wmaps z hz).ne_box h.box e
    · obtain ⟨_, _, cur, hb⟩ := own_blk h.rown e
      exact (h.wmaps z hz).ne_box hb rfl
  · intro g hg e
    obtain ⟨_, _, cur, hb⟩ := own_blk h.own hg
    rcases e with e | e
    · exact box_ne hb h.box (by decide) e
    · obtain ⟨_, _, cur', hb'⟩ := own_blk h.rown e
      exact box_ne hb hb' (by decide) rfl
  · rcases hat with e | e
    · exact .inl (h.hr g (e ▸ hg))
    · have h1 := (own_blk hown hg).2.1
      have hg' : some g = some w7.heap.size := hg.symm.trans e
      cases hg'
      exact .inr ⟨b.size, by rw [hsz]; exact h1⟩
  · rcases List.mem_append.1 hz with hz | hz
    · exact h.keepr o hT hS' z hz
    · rw [List.mem_singleton] at hz
      subst hz
      exact hp.step (o.mono fun k hk => (hT k hk).1) hS'
theorem TlR.tro {S : Nat → Prop} {base : Nat} {w : World} {m : Md} {x : Tl} (h : TlR S base w m x) (hok : ∀ y ∈ x.rs, ResOk y) (hf : x.ws.length ≤ 16) : TrO S base w m x.px x.wv x.rv x.ws x.rs :=
  ⟨h.md, h.bd, by rw [h.box.cell]; rfl, h.c3, h.own, h.wst, h.wok, h.rown, h.rst, hok, h.hw, h.hr, hf, h.lo⟩
theorem TlR.tro0 {S : Nat → Prop} {base : Nat} {w : World} {m : Md} {x : Tl} (h : TlR S base w m x) (hok : ∀ y ∈ x.rs, ResOk y) : TrO S base (w.setCell ⟨x.px, 2, none⟩ (.slice none 0 0)) m x.px (.slice none 0 0) x.rv [] x.rs := by
  have o : Off (fun k => k = x.px) w (w.setCell ⟨x.px, 2, none⟩ (.slice none 0 0)) := Off.set (S := fun k => k = x.px) (Off.refl _ w) ⟨x.px, 2, none⟩ rfl _
  have hT : ∀ k, (fun k => k = x.px) k → S k ∧ base ≤ k := fun k hk => by cases hk; exact ⟨h.hp, h.lo⟩
  have hbx : BoxC (w.setCell ⟨x.px, 2, none⟩ (.slice none 0 0)) x.px #[.pointer (some ⟨m.p, 0, none⟩), .slice (some ⟨x.bw, 0, none⟩) x.wm.length x.wc, .slice none 0 0, x.rv, .func (.func 107) #[] #[.pointer (some ⟨x.bx, 0, none⟩), .pointer (some ⟨x.bm, 0, none⟩)]] 123 := heap_setCell_same w x.px 2 _ 123 _ h.box
  refine ⟨h.md.off o (fun k hk => (hT k hk).1) (fun y hy hk => ?_) (fun k hk => .inl hk) h.md.hS, fun k hk => Nat.lt_of_lt_of_le (h.bd k hk) o.size, by rw [hbx.cell]; rfl, by rw [hbx.cell]; rfl, World.ownsRow_nil _ _ _ _, (fun y hy => by cases hy), (fun y hy => by cases hy), own_offb h.rown o (fun g hg e => ?_), h.keepr o hT (fun k hk => .inl hk), hok, (fun g hg => by cases hg), h.hr, by simp, h.lo⟩
  · have := h.old y hy
    have := h.lo
    omega
  · obtain ⟨_, _, cur, hb⟩ := own_blk h.rown hg
    exact box_ne hb h.box (by decide) e
set_option maxRecDepth 100000 in
set_option maxHeartbeats 4000000 in
/-- trial (66). -/
theorem trial_law (hsort : ESort) {S : Nat → Prop} {m : Md} {w : World} (h : MdR S w m) (hS : ∀ k, S k → k < w.heap.size) (x : TxnV) (hx : Stay S w fun W => TxnAt W x) (hon : x.on ≤ 1000000) (hrn : ∀ o ∈ x.ops, o.rn ≤ 1000000) (hf : ∀ z ∈ m.tabs, z.2.length ≤ 300000) :
    Calls Tryz.prog 66 #[.pointer (some ⟨m.p, 0, none⟩), .agg #[.slice x.oa x.on x.oc, .bool x.sn, .bool x.ab]] w (TrR S w m x) := by
  have HH := Lib.hid h
  have HS := Lib.hid hS
  have HXT := Lib.hid hx
  have HRN := Lib.hid hrn
  have HF := Lib.hid hf
  have HSO := Lib.hid hsort
  obtain ⟨w2, hw2⟩ : ∃ W, W = w.alloc (.cells #[.slice x.oa x.on x.oc, .bool x.sn, .bool x.ab] 38) := ⟨_, rfl⟩
  have hb2 : Below w.heap.size w w2 := by rw [hw2]; exact bl1 _ _
  have hbx2 : BoxC w2 w.heap.size #[.slice x.oa x.on x.oc, .bool x.sn, .bool x.ab] 38 := by rw [hw2]; exact BoxC.new _ _ _
  have HB2 := Lib.hid hb2
  have HBX2 := Lib.hid hbx2
  have HX := Lib.hid (fun X (b : Below w2.heap.size w2 X) => (by
    have hm := ((h.below hb2).below b).st.now.box
    have hq := hbx2.below b
    refine ⟨?_, ?_, ?_, ?_, ?_, ?_, ?_, ?_, ?_, ?_⟩
    all_goals first | (rw [hm.cell]; rfl) | (rw [hq.cell]; rfl) : X.cell? ⟨m.p, 0, none⟩ = some (.int .i64 m.j.w) ∧ X.cell? ⟨m.p, 1, none⟩ = some (.int .i64 m.j.l) ∧ X.cell? ⟨m.p, 2, none⟩ = some (.int .i64 m.j.d) ∧ X.cell? ⟨m.p, 3, none⟩ = some (.int .i64 m.j.c) ∧ X.cell? ⟨m.p, 4, none⟩ = some (.int .i64 m.j.k) ∧ X.cell? ⟨m.p, 5, none⟩ = some (.int .i64 m.j.e) ∧ X.cell? ⟨m.p, 6, none⟩ = some (.slice m.j.a m.j.n m.j.cap) ∧ X.cell? ⟨w.heap.size, 0, none⟩ = some (.slice x.oa x.on x.oc) ∧ X.cell? ⟨w.heap.size, 1, none⟩ = some (.bool x.sn) ∧ X.cell? ⟨w.heap.size, 2, none⟩ = some (.bool x.ab)))
  have HMT := Lib.hid (fun X (b : Below w2.heap.size w2 X) => maytxn_law m.j x hon hrn X (((h.below hb2).below b).st.now.job) ((hx.below hb2).below b).now)
  have hnone := mnone_law (h.below hb2)
  have HNO := Lib.hid hnone
  clear h hS hx hon hrn hf hsort hb2 hbx2 hnone
  cases hmt : mayT m.j x with
  | false =>
    rw [hmt] at HMT
    have HR := Lib.hid (fun r w' (hh : r = .returned (.tuple #[.pointer none, .int .i64 2]) ∧ Below w.heap.size w w') => (by unfold TrR; rw [hmt]; exact hh : TrR S w m x r w'))
    clear hmt
    go_enter Tryz.func66, Tryz.ntmps66
    go_upto_region 1 with (fail)
    rw [← hw2]
    clear hw2
    go_wp2_with fail
    refine HNO.out.mono ?_; rintro r w3 ⟨rfl, rfl⟩
    go_upto_region 3 with (fail)
    refine wp_region_held_drew (S := (fun X => Below w2.heap.size w2 X)) (by kernel_rfl) ((Below.refl _ _).drew) (fun hHeld => ?_)
    refine tp 0 ?_ rfl (.inl ⟨by rfl, ?_⟩) ?_
    rotate_left
    · intro W hSw; go_simp; try with_reducible rfl
    refine tp 1 ?_ rfl (.inl ⟨by rfl, ?_⟩) ?_
    rotate_left
    · intro W hSw; go_simp; try with_reducible rfl
    refine tp 2 ?_ rfl (.inl ⟨by rfl, ?_⟩) ?_
    rotate_left
    · intro W hSw; go_simp; try with_reducible rfl
    refine tp 3 ?_ rfl (.inl ⟨by rfl, ?_⟩) ?_
    rotate_left
    · intro W hSw; obtain ⟨m0, m1, m2, m3, m4, m5, m6, _⟩ := HX.out W hSw; go_simp; try with_reducible rfl
    refine tp 4 ?_ rfl (.inl ⟨by rfl, ?_⟩) ?_
    rotate_left
    · intro W hSw; obtain ⟨_, _, _, _, _, _, _, x0, x1, x2⟩ := HX.out W hSw; go_simp; try with_reducible rfl
    refine wpAnyH_ready (rs := [5]) (by kernel_rfl) (by simp) ?_
    refine AllReadyH.cons (o := { dst := some 19, op := Op.call { callee := Callee.value (Operand.func 95), args := #[Operand.tmp 17, Operand.tmp 18], argTypes := #[24, 38] }, type := 4, pos := "model.go:45", after := #[{ on := 3, ground := Ground.data }, { on := 4, ground := Ground.data }], guard := none }) rfl (fun K hK => ?_) AllReadyH.nil
    go_simp
    refine (HMT.out _ hHeld).mono ?_; rintro r w4 ⟨rfl, hb4⟩
    have HB4 := Lib.hid (step_below hHeld hb4)
    clear hb4
    go_wp2_with fail
    refine hK.out _ _ HB4.out (fun hHeldn => ?_)
    clear hK K hHeld; have hHeld := hHeldn; clear hHeldn
    try simp only [Act.put, List.setIfInBounds_toArray, List.set_cons_zero, List.set_cons_succ]
    refine tp 6 ?_ rfl (.inl ⟨by rfl, ?_⟩) ?_
    rotate_left
    · intro W hSw; go_simp; try with_reducible rfl
    refine tp 7 ?_ rfl (.inl ⟨by rfl, ?_⟩) ?_
    rotate_left
    · intro W hSw; go_simp; try with_reducible rfl
    refine wpAnyH_done (by kernel_rfl) ?_ _
    skip
    have HB9 := Lib.hid (HB2.out.trans (hHeld.mono HB2.out.size))
    clear hHeld
    go_wp2_with fail
    go_ret2
    exact HR.out _ _ ⟨rfl, HB9.out⟩
  | true =>
    rw [hmt] at HMT
    obtain ⟨hon16, hpo⟩ := mayT_facts hmt
    have HPO := Lib.hid hpo
    have HR := Lib.hid (fun r w' (hh : ∃ S' base px wv rv ws rs, r = .returned (.tuple #[.pointer (some ⟨px, 0, none⟩), .int .i64 0]) ∧ Below w.heap.size w w' ∧ w.heap.size ≤ base ∧ TrO S' base w' m px wv rv ws rs ∧ (∀ k, S k → S' k) ∧ (∀ k, S' k → S k ∨ w.heap.size ≤ k) ∧ rs.map resC = (runP m.j m.P x.ops).1 ∧ ws.map WtV.P = if x.ab then [] else (runP m.j m.P x.ops).2) => (by unfold TrR; rw [hmt]; exact hh : TrR S w m x r w'))
    clear hmt hpo
    go_enter Tryz.func66, Tryz.ntmps66
    go_upto_region 1 with (fail)
    rw [← hw2]
    clear hw2
    go_wp2_with fail
    refine HNO.out.mono ?_; rintro r w3 ⟨rfl, rfl⟩
    go_upto_region 3 with (fail)
    refine wp_region_held_drew (S := (fun X => Below w2.heap.size w2 X)) (by kernel_rfl) ((Below.refl _ _).drew) (fun hHeld => ?_)
    refine tp 0 ?_ rfl (.inl ⟨by rfl, ?_⟩) ?_
    rotate_left
    · intro W hSw; go_simp; try with_reducible rfl
    refine tp 1 ?_ rfl (.inl ⟨by rfl, ?_⟩) ?_
    rotate_left
    · intro W hSw; go_simp; try with_reducible rfl
    refine tp 2 ?_ rfl (.inl ⟨by rfl, ?_⟩) ?_
    rotate_left
    · intro W hSw; go_simp; try with_reducible rfl
    refine tp 3 ?_ rfl (.inl ⟨by rfl, ?_⟩) ?_
    rotate_left
    · intro W hSw; obtain ⟨m0, m1, m2, m3, m4, m5, m6, _⟩ := HX.out W hSw; go_simp; try with_reducible rfl
    refine tp 4 ?_ rfl (.inl ⟨by rfl, ?_⟩) ?_
    rotate_left
    · intro W hSw; obtain ⟨_, _, _, _, _, _, _, x0, x1, x2⟩ := HX.out W hSw; go_simp; try with_reducible rfl
    refine wpAnyH_ready (rs := [5]) (by kernel_rfl) (by simp) ?_
    refine AllReadyH.cons (o := { dst := some 19, op := Op.call { callee := Callee.value (Operand.func 95), args := #[Operand.tmp 17, Operand.tmp 18], argTypes := #[24, 38] }, type := 4, pos := "model.go:45", after := #[{ on := 3, ground := Ground.data }, { on := 4, ground := Ground.data }], guard := none }) rfl (fun K hK => ?_) AllReadyH.nil
    go_simp
    refine (HMT.out _ hHeld).mono ?_; rintro r w4 ⟨rfl, hb4⟩
    have HB4 := Lib.hid (step_below hHeld hb4)
    clear hb4
    go_wp2_with fail
    refine hK.out _ _ HB4.out (fun hHeldn => ?_)
    clear hK K hHeld; have hHeld := hHeldn; clear hHeldn
    try simp only [Act.put, List.setIfInBounds_toArray, List.set_cons_zero, List.set_cons_succ]
    refine tp 6 ?_ rfl (.inl ⟨by rfl, ?_⟩) ?_
    rotate_left
    · intro W hSw; go_simp; try with_reducible rfl
    refine tp 7 ?_ rfl (.inl ⟨by rfl, ?_⟩) ?_
    rotate_left
    · intro W hSw; go_simp; try with_reducible rfl
    refine wpAnyH_done (by kernel_rfl) ?_ _
    skip
    have HB9 := Lib.hid (HB2.out.trans (hHeld.mono HB2.out.size))
    have HBX4 := Lib.hid (HBX2.out.below hHeld)
    clear hHeld
    go_wp2_with fail
    refine (newtrial_law (HH.out.below HB9.out) (fun k hk => Nat.lt_of_lt_of_le (HS.out k hk) HB9.out.size)).mono ?_; rintro r w5 ⟨S5, x0, rfl, hb5, htl5, hws0, hrs0, hsu5, hsd5⟩
    obtain ⟨px, hpx⟩ : ∃ p, x0.px = p := ⟨_, rfl⟩
    rw [hpx]
    have HB5 := Lib.hid (HB9.out.trans (hb5.mono HB9.out.size))
    have HTL5 := Lib.hid htl5
    have HPX5 := Lib.hid hpx
    have HWR0 := Lib.hid (And.intro hws0 hrs0)
    have HSU5 := Lib.hid hsu5
    have HSD5 := Lib.hid hsd5
    have HBX5 := Lib.hid (HBX4.out.below hb5)
    have HS45 := Lib.hid hb5.size
    clear htl5 hpx hws0 hrs0 hsu5 hsd5 hb5
    go_wp2_with fail
    refine (calls_law w5).mono ?_; rintro r w6 ⟨rfl, hb6, hmp6⟩
    have HB6 := Lib.hid (HB5.out.trans (hb6.mono HB5.out.size))
    have HMP6 := Lib.hid hmp6
    have HTL6 := Lib.hid (HTL5.out.below hb6)
    have HBX6 := Lib.hid (HBX5.out.below hb6)
    have HS56 := Lib.hid hb6.size
    obtain ⟨b, hb⟩ : ∃ b, w5.heap.size = b := ⟨_, rfl⟩
    rw [hb] at HMP6 ⊢
    have HBB := Lib.hid hb
    have c0 := HBX6.out.cell 0
    simp only [List.getElem?_toArray, List.getElem?_cons_zero, List.getElem?_cons_succ] at c0
    have HON := Lib.hid hon16
    have hxl : x.ops.length = x.on := HXT.out.now.ol
    have HXL := Lib.hid hxl
    have hxo : (x.on : Int) ≤ 16 := by omega
    clear hb6 hmp6 hb hon16 hxl
    go_wp2_with fail
    clear c0
    go_loopw [27] (fun i wr => ∃ (k : Nat) (S1 : Nat → Prop) (x1 : Tl), k ≤ x.on ∧ i = .int .i64 (k : Int) ∧ Hid (TlR S1 w4.heap.size wr m x1) ∧ Hid (x1.px = px) ∧ Hid (x1.ws.map WtV.P = (runP m.j m.P (x.ops.take k)).2) ∧ Hid (x1.rs.map resC = (runP m.j m.P (x.ops.take k)).1) ∧ Hid (∀ y ∈ x1.rs, ResOk y) ∧ Hid (∀ g, S g → S1 g) ∧ Hid (∀ g, S1 g → S g ∨ w4.heap.size ≤ g) ∧ Hid (¬ S1 b ∧ b < wr.heap.size) ∧ Hid (wr.ownsMap Tryz.prog 72 RF b 6 callsD) ∧ Hid (BoxC wr w.heap.size #[.slice x.oa x.on x.oc, .bool x.sn, .bool x.ab] 38) ∧ Hid (Below w.heap.size w wr) ∧ Hid (w4.heap.size ≤ wr.heap.size)) (fun i _ => x.on - (intOf i).toNat)
    case atStart => exact ⟨0, S5, x0, by omega, rfl, HTL6, HPX5, Lib.hid (by rw [HWR0.out.1]; rfl), Lib.hid (by rw [HWR0.out.2]; rfl), Lib.hid (fun y hy => by rw [HWR0.out.2] at hy; cases hy), HSU5, HSD5, Lib.hid ⟨fun h => Nat.lt_irrefl _ (by have := HTL5.out.bd _ h; rw [HBB.out] at this; exact this), by obtain ⟨_, _, hh, _⟩ := HMP6.out; exact (Array.getElem?_eq_some_iff.1 hh).1⟩, HMP6, HBX6, HB6, Lib.hid (Nat.le_trans HS45.out HS56.out)⟩
    case round =>
      obtain ⟨k, S1, x1, hk, rfl, HTL, HPX, HWS, HRS, HOK, HSU, HSD, HNB, HMP, HTX, HBW, H4R⟩ := hrel
      by_cases hlt : k < x.on
      · have d1 : (k : Int) < (x.on : Int) := by omega
        obtain ⟨o, ho⟩ : ∃ o, x.ops[k]? = some o := ⟨_, List.getElem?_eq_getElem (by rw [HXL.out]; exact hlt)⟩
        have hmem : o ∈ x.ops := List.mem_of_getElem? ho
        have hst : Stay S1 wr fun W => TxnAt W x := HXT.out.step (Off.of HBW.out) (fun g hg => (HSD.out g hg).imp id fun hg => by have := HB9.out.size; omega)
        obtain ⟨b1, o1, ea, ⟨p0, p1, p2, p3, p4, p5, p6⟩, _⟩ := hst.now.os k o ho
        have HTK := Lib.hid (runP_take m.j m.P ho)
        have HRN1 := Lib.hid (HRN.out o hmem)
        have HPO1 := Lib.hid (HPO.out o hmem)
        have HCA := Lib.hid (hst.mono fun W hW => by obtain ⟨_, _, _, _, hc⟩ := hW.os k o ho; exact hc : Stay S1 wr fun W => CallAt W o)
        have HEA := Lib.hid ea
        rw [ea]
        clear hst ho hmem ea
        go_upto_region 10 with (fail)
        clear p0 p1 p2 p3 p4 p5 p6
        obtain ⟨kk, hkk⟩ : ∃ kk : Nat, o.k = (kk : Int) := ⟨o.k.toNat, by have := pO_kind HPO1.out; omega⟩
        have hk16 := pO_kind HPO1.out
        have hpt := pO_t HPO1.out
        have hwl : x1.ws.length ≤ k := by
          have h1 := congrArg List.length HWS.out
          rw [List.length_map] at h1
          have h2 := (runP_len m.j m.P (x.ops.take k)).2
          rw [List.length_take, HXL.out] at h2
          omega
        have hrl : x1.rs.length = k := by
          have h1 := congrArg List.length HRS.out
          rw [List.length_map] at h1
          have h2 := (runP_len m.j m.P (x.ops.take k)).1
          rw [List.length_take, HXL.out] at h2
          omega
        obtain ⟨w7, hw7⟩ : ∃ W, W = wr.alloc (.cells #[.int .i64 o.k, .int .i64 o.t, .int .i64 o.i, .slice o.ka o.kn o.kc, .slice o.ta o.tn o.tc, .int .i64 o.m, .slice o.ra o.rn o.rc] 74) := ⟨_, rfl⟩
        rw [← hw7]
        have hb7 : Below wr.heap.size wr w7 := by rw [hw7]; exact bl1 _ _
        have hbx7 : BoxC w7 wr.heap.size #[.int .i64 o.k, .int .i64 o.t, .int .i64 o.i, .slice o.ka o.kn o.kc, .slice o.ta o.tn o.tc, .int .i64 o.m, .slice o.ra o.rn o.rc] 74 := by rw [hw7]; exact BoxC.new _ _ _
        clear hw7
        have hb7d := ((Below.refl w7.heap.size w7).drew)
        have HX7 := Lib.hid (SR.mk (rv := x1.rv) (px := px) (b := b) ⟨_, by have := (HTL.out.box.below hb7).below hb7d; rw [HPX.out] at this; exact this, rfl⟩ (hbx7.below hb7d) (Off.map (Off.of (S := fun _ => False) hb7d) (Off.map (Off.of (S := fun _ => False) hb7) HMP.out (fun h => h)) (fun h => h)))
        have HTLW := Lib.hid ((HTL.out.below hb7).below hb7d)
        have H4W := Lib.hid (Nat.le_trans H4R.out (Nat.le_trans hb7.size hb7d.size))
        have HSW := Lib.hid (Nat.le_trans hb7.size hb7d.size)
        have HBRW := Lib.hid (hb7.trans (hb7d.mono hb7.size))
        have hops : OpS S1 w7.drew m o o.t.toNat := ⟨(HCA.out.below hb7).below hb7d, by omega, by have := HH.out.len; omega, HPO1.out, HRN1.out⟩
        have hcl := tcall_law HSO.out HTLW.out H4W.out o o.t.toNat hops (by omega) HF.out kk hkk
        rw [HPX.out] at hcl
        have HCL := Lib.hid hcl
        have HKK := Lib.hid hkk
        have HK6 := Lib.hid (show 1 ≤ kk ∧ kk ≤ 6 by omega)
        have HRL := Lib.hid (show x1.rs.length = k ∧ k < 16 by omega)
        have HNM := Lib.hid (show ¬ Mut x1 wr.heap.size ∧ ¬ Mut x1 b from ⟨fun h => Nat.lt_irrefl _ (HTL.out.bd _ (HTL.out.mut _ h).1), fun h => HNB.out.1 (HTL.out.mut _ h).1⟩)
        have HNR := Lib.hid (show ¬ x1.rv.ownBlock = some px ∧ ¬ x1.rv.ownBlock = some wr.heap.size ∧ ¬ x1.rv.ownBlock = some b from ⟨fun e => by
          obtain ⟨_, _, cur, hb⟩ := own_blk HTL.out.rown e
          have := HTL.out.box
          rw [HPX.out] at this
          exact box_ne hb this (by decide) rfl, fun e => Nat.lt_irrefl _ (HTL.out.bd _ (HTL.out.hr _ e)), fun e => HNB.out.1 (HTL.out.hr _ e)⟩)
        clear hkk hk16 hpt hwl hrl hb7 hbx7 hb7d hops hcl
        refine wp_region_last (z := 16) (S := (SR px wr.heap.size b x1.rv #[.int .i64 o.k, .int .i64 o.t, .int .i64 o.i, .slice o.ka o.kn o.kc, .slice o.ta o.tn o.tc, .int .i64 o.m, .slice o.ra o.rn o.rc])) (by kernel_rfl) (HX7.out) (fun hHeld => ?_)
        refine wpAnyL_take (i := 0) (oi := { dst := some 31, op := Op.move (Operand.tmp 6), type := 117, pos := "model.go:51", after := #[], guard := none }) (v := ?_) (by kernel_rfl) rfl (by kernel_rfl) rfl (by kernel_rfl) (by kernel_rfl) (by kernel_rfl) (fun _ _ _ h => h) (Or.inl ⟨by rfl, ?_⟩) (by assumption) ?_
        rotate_left
        · intro W hSw; go_simp; try with_reducible rfl
        try simp only [Act.put, List.setIfInBounds_toArray, List.set_cons_zero, List.set_cons_succ]
        refine wpAnyL_take (i := 1) (oi := { dst := some 32, op := Op.move (Operand.tmp 6), type := 117, pos := "model.go:51", after := #[], guard := none }) (v := ?_) (by kernel_rfl) rfl (by kernel_rfl) rfl (by kernel_rfl) (by kernel_rfl) (by kernel_rfl) (fun _ _ _ h => h) (Or.inl ⟨by rfl, ?_⟩) (by assumption) ?_
        rotate_left
        · intro W hSw; go_simp; try with_reducible rfl
        try simp only [Act.put, List.setIfInBounds_toArray, List.set_cons_zero, List.set_cons_succ]
        refine wpAnyL_take (i := 2) (oi := { dst := some 33, op := Op.nilCheck (Operand.tmp 32), type := 0, pos := "model.go:51", after := #[{ on := 1, ground := Ground.data }], guard := none }) (v := ?_) (by kernel_rfl) rfl (by kernel_rfl) rfl (by kernel_rfl) (by kernel_rfl) (by kernel_rfl) (fun _ _ _ h => h) (Or.inl ⟨by rfl, ?_⟩) (by assumption) ?_
        rotate_left
        · intro W hSw; go_simp; try with_reducible rfl
        try simp only [Act.put, List.setIfInBounds_toArray, List.set_cons_zero, List.set_cons_succ]
        refine wpAnyL_take (i := 3) (oi := { dst := some 34, op := Op.fieldAddr 123 (Operand.tmp 33) 3, type := 0, pos := "model.go:51", after := #[{ on := 2, ground := Ground.data }], guard := none }) (v := ?_) (by kernel_rfl) rfl (by kernel_rfl) rfl (by kernel_rfl) (by kernel_rfl) (by kernel_rfl) (fun _ _ _ h => h) (Or.inl ⟨by rfl, ?_⟩) (by assumption) ?_
        rotate_left
        · intro W hSw; go_simp; try with_reducible rfl
        try simp only [Act.put, List.setIfInBounds_toArray, List.set_cons_zero, List.set_cons_succ]
        refine wpAnyL_take (i := 4) (oi := { dst := some 35, op := Op.load 59 (Operand.tmp 34), type := 59, pos := "model.go:51", after := #[{ on := 3, ground := Ground.data }], guard := none }) (v := ?_) (by kernel_rfl) rfl (by kernel_rfl) rfl (by kernel_rfl) (by kernel_rfl) (by kernel_rfl) (fun _ _ _ h => h) (Or.inl ⟨by rfl, ?_⟩) (by assumption) ?_
        rotate_left
        · intro W hSw; have m3 := hSw.c3; go_simp; try with_reducible rfl
        try simp only [Act.put, List.setIfInBounds_toArray, List.set_cons_zero, List.set_cons_succ]
        refine wpAnyL_take (i := 5) (oi := { dst := some 36, op := Op.move (Operand.tmp 7), type := 157, pos := "model.go:51", after := #[], guard := none }) (v := ?_) (by kernel_rfl) rfl (by kernel_rfl) rfl (by kernel_rfl) (by kernel_rfl) (by kernel_rfl) (fun _ _ _ h => h) (Or.inl ⟨by rfl, ?_⟩) (by assumption) ?_
        rotate_left
        · intro W hSw; go_simp; try with_reducible rfl
        try simp only [Act.put, List.setIfInBounds_toArray, List.set_cons_zero, List.set_cons_succ]
        refine wpAnyL_take (i := 6) (oi := { dst := some 37, op := Op.fieldAddr 74 (Operand.tmp 9) 0, type := 0, pos := "model.go:51", after := #[], guard := none }) (v := ?_) (by kernel_rfl) rfl (by kernel_rfl) rfl (by kernel_rfl) (by kernel_rfl) (by kernel_rfl) (fun _ _ _ h => h) (Or.inl ⟨by rfl, ?_⟩) (by assumption) ?_
        rotate_left
        · intro W hSw; go_simp; try with_reducible rfl
        try simp only [Act.put, List.setIfInBounds_toArray, List.set_cons_zero, List.set_cons_succ]
        refine wpAnyL_take (i := 7) (oi := { dst := some 38, op := Op.load 72 (Operand.tmp 37), type := 72, pos := "model.go:51", after := #[{ on := 6, ground := Ground.data }], guard := none }) (v := ?_) (by kernel_rfl) rfl (by kernel_rfl) rfl (by kernel_rfl) (by kernel_rfl) (by kernel_rfl) (fun _ _ _ h => h) (Or.inl ⟨by rfl, ?_⟩) (by assumption) ?_
        rotate_left
        · intro W hSw; have m0 := hSw.o.cell 0; simp only [List.getElem?_toArray, List.getElem?_cons_zero, List.getElem?_cons_succ] at m0; go_simp; try with_reducible rfl
        try simp only [Act.put, List.setIfInBounds_toArray, List.set_cons_zero, List.set_cons_succ]
        refine wpAnyL_take (i := 8) (oi := { dst := some 39, op := Op.lookup 157 (Operand.tmp 36) (Operand.tmp 38) false, type := 159, pos := "model.go:51", after := #[{ on := 5, ground := Ground.data }, { on := 7, ground := Ground.data }], guard := none }) (v := ?_) (by kernel_rfl) rfl (by kernel_rfl) rfl (by kernel_rfl) (by kernel_rfl) (by kernel_rfl) (fun _ _ _ h => h) (Or.inl ⟨by rfl, ?_⟩) (by assumption) ?_
        rotate_left
        · intro W hSw; have m := calls_look hSw.m kk HK6.out.1 HK6.out.2; rw [← HKK.out] at m; go_simp; try with_reducible rfl
        try simp only [Act.put, List.setIfInBounds_toArray, List.set_cons_zero, List.set_cons_succ]
        refine wpAnyL_take (i := 9) (oi := { dst := some 40, op := Op.move (Operand.tmp 6), type := 117, pos := "model.go:51", after := #[], guard := none }) (v := ?_) (by kernel_rfl) rfl (by kernel_rfl) rfl (by kernel_rfl) (by kernel_rfl) (by kernel_rfl) (fun _ _ _ h => h) (Or.inl ⟨by rfl, ?_⟩) (by assumption) ?_
        rotate_left
        · intro W hSw; go_simp; try with_reducible rfl
        try simp only [Act.put, List.setIfInBounds_toArray, List.set_cons_zero, List.set_cons_succ]
        refine wpAnyL_take (i := 10) (oi := { dst := some 41, op := Op.load 74 (Operand.tmp 9), type := 74, pos := "model.go:51", after := #[], guard := none }) (v := ?_) (by kernel_rfl) rfl (by kernel_rfl) rfl (by kernel_rfl) (by kernel_rfl) (by kernel_rfl) (fun _ _ _ h => h) (Or.inl ⟨by rfl, ?_⟩) (by assumption) ?_
        rotate_left
        · intro W hSw; have m0 := hSw.o.cell 0; have m1 := hSw.o.cell 1; have m2 := hSw.o.cell 2; have m3 := hSw.o.cell 3; have m4 := hSw.o.cell 4; have m5 := hSw.o.cell 5; have m6 := hSw.o.cell 6; simp only [List.getElem?_toArray, List.getElem?_cons_zero, List.getElem?_cons_succ] at m0 m1 m2 m3 m4 m5 m6; go_simp; try with_reducible rfl
        try simp only [Act.put, List.setIfInBounds_toArray, List.set_cons_zero, List.set_cons_succ]
        refine wpAnyL_ready (rs := [11]) (by kernel_rfl) (by simp) ?_
        refine AllL.cons (o := { dst := some 42, op := Op.call { callee := Callee.value (Operand.tmp 39), args := #[Operand.tmp 40, Operand.tmp 41], argTypes := #[117, 74] }, type := 81, pos := "model.go:51", after := #[{ on := 8, ground := Ground.data }, { on := 9, ground := Ground.data }, { on := 10, ground := Ground.data }], guard := none }) rfl (fun K hK => ?_) AllL.nil
        go_simp
        rw [ent22 kk HK6.out.1 HK6.out.2, Oper.upon_enter]
        refine HCL.out.mono ?_; rintro r w8 ⟨S2, x2, y, rfl, st, hye, hyo, hys, hws⟩
        have HST := Lib.hid st
        have HYE := Lib.hid hye
        have HYO := Lib.hid hyo
        have HYS := Lib.hid hys
        have HW2 := Lib.hid hws
        have HSR8 := Lib.hid (hHeld.call st HPX.out rfl HNM.out.1 HNM.out.2)
        clear st hye hyo hys hws
        go_wp2_with fail
        refine hK.out _ _ (HSR8.out) (fun hHeldn => ?_)
        clear hK K hHeld; have hHeld := hHeldn; clear hHeldn
        try simp only [Act.put, List.setIfInBounds_toArray, List.set_cons_zero, List.set_cons_succ]
        refine wpAnyL_ready (rs := [12]) (by kernel_rfl) (by simp) ?_
        refine AllL.cons (o := { dst := some 43, op := Op.buildSlice 59 1 #[(0, Operand.tmp 42)], type := 59, pos := "model.go:51", after := #[{ on := 11, ground := Ground.data }], guard := none }) rfl (fun K hK => ?_) AllL.nil
        go_simp
        refine hK.out _ _ (hHeld.off (Off.of (S := fun _ => False) (bl1 w8 (.cells #[.int .i64 y.e, .slice y.pa y.P.length y.pc] 81))) (fun h => h) (fun h => h) (fun h => h)) (fun hHeldn => ?_)
        clear hK K hHeld; have hHeld := hHeldn; clear hHeldn
        try simp only [Act.put, List.setIfInBounds_toArray, List.set_cons_zero, List.set_cons_succ]
        refine wpAnyL_ready (rs := [13]) (by kernel_rfl) (by simp) ?_
        refine AllL.cons (o := { dst := some 44, op := Op.call { callee := Callee.builtin Builtin.append, args := #[Operand.tmp 35, Operand.tmp 43], argTypes := #[59, 59] }, type := 59, pos := "model.go:51", after := #[{ on := 4, ground := Ground.data }, { on := 12, ground := Ground.data }, { on := 11, ground := Ground.chain }], guard := none }) rfl (fun K hK => ?_) AllL.nil
        have hown : w8.ownsRow w4.heap.size 81 2 x1.rv x1.rs.length (cellsOf rcl x1.rs) := by have := HST.out.tl.rown; rw [HST.out.rv, HST.out.rs] at this; exact this
        refine step_append_cells ae_result rfl _ _ rfl w4.heap.size x1.rv x1.rs.length (cellsOf rcl x1.rs) rfl (own_kept hown (bl1 w8 (.cells #[.int .i64 y.e, .slice y.pa y.P.length y.pc] 81))) ⟨w8.heap.size, 0, none⟩ 1 1 (rcl y) rfl rfl (cells_new w8 _ _ _ rfl) (rcl_one y) (by have := HRL.out; omega) (Nat.le_trans H4W.out (Nat.le_trans HST.out.off.size (bl1 w8 (.cells #[.int .i64 y.e, .slice y.pa y.P.length y.pc] 81)).size)) ?_
        intro v9 w9 hown9 hgrow9 hat9
        obtain ⟨a9, c9, hv9⟩ := own_form22 hown9
        subst hv9
        have HO9 := Lib.hid hown9
        have HG9 := Lib.hid hgrow9
        have HAT := Lib.hid hat9
        have HSR9 := Lib.hid (hHeld.off (Off.of_row hgrow9) HNR.out.1 HNR.out.2.1 HNR.out.2.2)
        clear hown hown9 hgrow9 hat9
        refine hK.out _ _ (HSR9.out) (fun hHeldn => ?_)
        clear hK K hHeld; have hHeld := hHeldn; clear hHeldn
        try simp only [Act.put, List.setIfInBounds_toArray, List.set_cons_zero, List.set_cons_succ]
        refine wpAnyL_free (i := 14) (oi := { dst := some 45, op := Op.nilCheck (Operand.tmp 31), type := 0, pos := "model.go:51", after := #[{ on := 0, ground := Ground.data }, { on := 0, ground := Ground.phase }, { on := 1, ground := Ground.phase }, { on := 2, ground := Ground.phase }, { on := 3, ground := Ground.phase }, { on := 4, ground := Ground.phase }, { on := 5, ground := Ground.phase }, { on := 6, ground := Ground.phase }, { on := 7, ground := Ground.phase }, { on := 8, ground := Ground.phase }, { on := 9, ground := Ground.phase }, { on := 10, ground := Ground.phase }, { on := 11, ground := Ground.phase }, { on := 12, ground := Ground.phase }, { on := 13, ground := Ground.phase }], guard := none }) (v := ?_) (by kernel_rfl) rfl rfl (by kernel_rfl) (by kernel_rfl) (by kernel_rfl) (fun _ _ _ h => h) (Or.inl ⟨by rfl, ?_⟩) (by assumption) ?_
        rotate_left
        · intro W hSw; go_simp; try with_reducible rfl
        try simp only [Act.put, List.setIfInBounds_toArray, List.set_cons_zero, List.set_cons_succ]
        refine wpAnyL_take (i := 15) (oi := { dst := some 46, op := Op.fieldAddr 123 (Operand.tmp 45) 3, type := 0, pos := "model.go:51", after := #[{ on := 14, ground := Ground.data }, { on := 0, ground := Ground.phase }, { on := 1, ground := Ground.phase }, { on := 2, ground := Ground.phase }, { on := 3, ground := Ground.phase }, { on := 4, ground := Ground.phase }, { on := 5, ground := Ground.phase }, { on := 6, ground := Ground.phase }, { on := 7, ground := Ground.phase }, { on := 8, ground := Ground.phase }, { on := 9, ground := Ground.phase }, { on := 10, ground := Ground.phase }, { on := 11, ground := Ground.phase }, { on := 12, ground := Ground.phase }, { on := 13, ground := Ground.phase }], guard := none }) (v := ?_) (by kernel_rfl) rfl (by kernel_rfl) rfl (by kernel_rfl) (by kernel_rfl) (by kernel_rfl) (fun _ _ _ h => h) (Or.inl ⟨by rfl, ?_⟩) (by assumption) ?_
        rotate_left
        · intro W hSw; go_simp; try with_reducible rfl
        try simp only [Act.put, List.setIfInBounds_toArray, List.set_cons_zero, List.set_cons_succ]
        refine wpAnyL_ready (rs := [16]) (by kernel_rfl) (by simp) ?_
        refine AllL.last (o := { dst := none, op := Op.store 59 (Operand.tmp 46) (Operand.tmp 44), type := 0, pos := "model.go:51", after := #[{ on := 15, ground := Ground.data }, { on := 13, ground := Ground.data }, { on := 13, ground := Ground.chain }, { on := 0, ground := Ground.phase }, { on := 1, ground := Ground.phase }, { on := 2, ground := Ground.phase }, { on := 3, ground := Ground.phase }, { on := 4, ground := Ground.phase }, { on := 5, ground := Ground.phase }, { on := 6, ground := Ground.phase }, { on := 7, ground := Ground.phase }, { on := 8, ground := Ground.phase }, { on := 9, ground := Ground.phase }, { on := 10, ground := Ground.phase }, { on := 11, ground := Ground.phase }, { on := 12, ground := Ground.phase }, { on := 13, ground := Ground.phase }], guard := none }) rfl (fun K hK => ?_)
        have x4 := HSR9.out.c3
        have f4 := HSR9.out.f3
        go_simp
        refine hK.out _ _ ?_
        clear hK K x4 f4
        try simp only [Act.put, List.setIfInBounds_toArray, List.set_cons_zero, List.set_cons_succ]
        refine wpAnyL_done (by kernel_rfl) ?_ _
        skip
        have hlog := TlR.log HST.out.tl (bl1 w8 (.cells #[.int .i64 y.e, .slice y.pa y.P.length y.pc] 81)) y HYS.out (.slice a9 (x1.rs.length + 1) c9) (by rw [HST.out.rs, cellsOf_append]; exact HO9.out) (by rw [HST.out.rv]; exact HG9.out) (by rw [HST.out.rv]; exact HAT.out) (by rw [HST.out.rs]; have := HRL.out; omega)
        rw [HST.out.px, HPX.out, HST.out.rv, HST.out.rs] at hlog
        have HL1 := Lib.hid hlog.1
        have HL2 := Lib.hid hlog.2
        clear hlog
        go_wp2_with fail
        go_roundw
        case rel =>
          have hbS : ∀ g, S2 g → S1 g ∨ wr.heap.size ≤ g := fun g hg => (HST.out.sd g hg).imp id fun h => Nat.le_trans HSW.out h
          have h8 : wr.heap.size ≤ w8.heap.size := Nat.le_trans HSW.out HST.out.off.size
          have hpS : S1 px := by have := HTL.out.hp; rw [HPX.out] at this; exact this
          have hpB : w4.heap.size ≤ px := by have := HTL.out.lo; rw [HPX.out] at this; exact this
          have hrB : ∀ g, x1.rv.ownBlock = some g → w4.heap.size ≤ g := fun g hg => (own_blk HTL.out.rown hg).1
          have h24 : w.heap.size < w4.heap.size := HBX4.out.lt
          refine ⟨k + 1, _, _, by omega, by go_num, HL1, Lib.hid rfl, Lib.hid ?_, Lib.hid ?_, Lib.hid ?_, Lib.hid fun g hg => .inl (HST.out.su g (HSU.out g hg)), Lib.hid fun g hg => ?_, Lib.hid ⟨fun hg => ?_, ?_⟩, Lib.hid ?_, Lib.hid ?_, Lib.hid ?_, Lib.hid ?_⟩
          · show x2.ws.map WtV.P = _
            rw [HW2.out, HTK.out, HWS.out]; rfl
          · show (x1.rs ++ [y]).map resC = _
            rw [List.map_append, HTK.out, HRS.out]
            show _ ++ [resC y] = _ ++ [_]
            rw [HYE.out, HWS.out]
          · intro z hz
            rcases List.mem_append.1 hz with hz | hz
            · exact HOK.out z hz
            · rw [List.mem_singleton] at hz; subst hz; exact HYO.out
          · rcases hg with hg | hg
            · rcases hbS g hg with hg | hg
              · exact HSD.out g hg
              · exact .inr (Nat.le_trans H4R.out hg)
            · exact .inr (Nat.le_trans H4R.out (Nat.le_trans h8 hg.1))
          · have := HNB.out.2
            rcases hg with hg | hg
            · rcases hbS b hg with hg | hg
              · exact HNB.out.1 hg
              · omega
            · have := hg.1; omega
          · have := HNB.out.2
            have := HL2.out.size
            omega
          · refine Off.map (Off.set (S := fun k => k = px) (Off.refl _ w9) ⟨px, 3, none⟩ rfl _) HSR9.out.m (fun e => HNB.out.1 ?_)
            rw [e]; exact hpS
          · rw [← HEA.out]
            refine HL2.out.box (HST.out.off.box (HTX.out.below HBRW.out) fun hm => ?_) (fun hm => ?_)
            · have := (HTL.out.mut _ hm).2; omega
            · rcases hm with hm | hm
              · omega
              · have := hrB _ hm; omega
          · refine Off.below (Off.below (HBW.out.trans (HBRW.out.mono HBW.out.size)) HST.out.off ?_ fun g hg => ?_) HL2.out ?_ fun g hg => ?_
            · exact Nat.le_trans HBW.out.size HSW.out
            · have := (HTL.out.mut _ hg).2; omega
            · exact Nat.le_trans HBW.out.size h8
            · rcases hg with hg | hg
              · omega
              · have := hrB _ hg; omega
          · exact Nat.le_trans H4R.out (Nat.le_trans h8 HL2.out.size)
        case measure => simp [intOf]; omega
      · have d1 : ¬ (k : Int) < (x.on : Int) := by omega
        have hke : k = x.on := by omega
        have HTK := Lib.hid (show x.ops.take k = x.ops from List.take_of_length_le (by rw [HXL.out]; omega))
        have HW1 := Lib.hid (show x1.ws.map WtV.P = (runP m.j m.P x.ops).2 by rw [HWS.out, HTK.out])
        have HR1 := Lib.hid (show x1.rs.map resC = (runP m.j m.P x.ops).1 by rw [HRS.out, HTK.out])
        have HFW := Lib.hid (show x1.ws.length ≤ 16 by
          have h1 := congrArg List.length HW1.out
          rw [List.length_map] at h1
          have h2 := (runP_len m.j m.P x.ops).2
          rw [HXL.out] at h2
          omega)
        have c2 := HTX.out.cell 2
        simp only [List.getElem?_toArray, List.getElem?_cons_zero, List.getElem?_cons_succ] at c2
        have HR2 := Lib.hid (fun W wv ws hB hT hw => HR.out (.returned (.tuple #[.pointer (some ⟨px, 0, none⟩), .int .i64 0])) W ⟨S1, w4.heap.size, px, wv, x1.rv, ws, x1.rs, rfl, hB, by have := HBX4.out.lt; omega, hT, HSU.out, fun g hg => (HSD.out g hg).imp id fun h => by have := HBX4.out.lt; omega, HR1.out, (hw : ws.map WtV.P = if x.ab = true then [] else (runP m.j m.P x.ops).2)⟩)
        clear hke
        have hab : x.ab = true ∨ x.ab = false := by cases x.ab <;> simp
        rcases hab with hab | hab
        · rw [hab] at c2
          have HAB := Lib.hid hab
          clear hab
          have hbx := HTL.out.box
          rw [HPX.out] at hbx
          have x4 : wr.cell? ⟨px, 2, none⟩ = some x1.wv := by rw [hbx.cell]; rfl
          have f4 := hbx.frozen 2
          clear hbx
          go_wp2_with fail
          clear x4 f4 c2
          have ht0 := HTL.out.tro0 HOK.out
          rw [HPX.out] at ht0
          have HT0 := Lib.hid ht0
          clear ht0
          go_wp2_with fail
          go_ret2
          refine HR2.out _ _ _ (HBW.out.setCell ?_ _) HT0.out ?_
          · have h1 := HTL.out.lo
            rw [HPX.out] at h1
            have := HBX4.out.lt
            show w.heap.size ≤ px
            omega
          · rw [if_pos HAB.out]; rfl
        · rw [hab] at c2
          have HAB := Lib.hid hab
          clear hab
          go_wp2_with fail
          clear c2
          have ht0 := HTL.out.tro HOK.out HFW.out
          rw [HPX.out] at ht0
          have HT0 := Lib.hid ht0
          clear ht0
          go_wp2_with fail
          go_ret2
          refine HR2.out _ _ _ HBW.out HT0.out ?_
          rw [if_neg (by rw [HAB.out]; simp)]; exact HW1.out
end Go.Proofs.YthmofoldmdafoaaGreat
namespace Go.Proofs
open Go.Shelf
def Tryz.sortEn_ren : Go.Shelf.Ren := ⟨fun | 6 => 119 | 15 => 131 | 14 => 138 | 28 => 151 | 29 => 152 | 20 => 166 | 21 => 167 | 22 => 168 | 23 => 169 | 24 => 170 | 25 => 171 | 26 => 172 | 27 => 173 | 46 => 183 | 47 => 175 | 48 => 176 | 49 => 184 | 50 => 185 | 57 => 188 | n => n, fun | 22 => 146 | 24 => 149 | 25 => 194 | 3 => 3 | 39 => 202 | 0 => 0 | 53 => 226 | 55 => 228 | 4 => 4 | 46 => 220 | 45 => 219 | 50 => 111 | 5 => 5 | 9 => 9 | 66 => 244 | 70 => 248 | 76 => 254 | 77 => 203 | n => n, fun | n => n⟩
theorem Tryz.sortEn : Go.Proofs.SlLaysF0.n6 Tryz.prog Tryz.sortEn_ren := {
  mixed := by kernel_rfl
  f6 := ⟨Tryz.f119.name, by decide, Tryz.func119.trans (congrArg some (by kernel_rfl))⟩
  f14 := ⟨Tryz.f138.name, by decide, Tryz.func138.trans (congrArg some (by kernel_rfl))⟩
  f15 := Tryz.func131.trans (congrArg some (by kernel_rfl))
  f20 := ⟨Tryz.f166.name, by decide, Tryz.func166.trans (congrArg some (by kernel_rfl))⟩
  f21 := ⟨Tryz.f167.name, by decide, Tryz.func167.trans (congrArg some (by kernel_rfl))⟩
  f22 := ⟨Tryz.f168.name, by decide, Tryz.func168.trans (congrArg some (by kernel_rfl))⟩
  f23 := ⟨Tryz.f169.name, by decide, Tryz.func169.trans (congrArg some (by kernel_rfl))⟩
  f24 := ⟨Tryz.f170.name, by decide, Tryz.func170.trans (congrArg some (by kernel_rfl))⟩
  f25 := ⟨Tryz.f171.name, by decide, Tryz.func171.trans (congrArg some (by kernel_rfl))⟩
  f26 := ⟨Tryz.f172.name, by decide, Tryz.func172.trans (congrArg some (by kernel_rfl))⟩
  f27 := ⟨Tryz.f173.name, by decide, Tryz.func173.trans (congrArg some (by kernel_rfl))⟩
  f28 := Tryz.func151.trans (congrArg some (by kernel_rfl))
  f29 := Tryz.func152.trans (congrArg some (by kernel_rfl))
  f46 := ⟨Tryz.f183.name, by decide, Tryz.func183.trans (congrArg some (by kernel_rfl))⟩
  f47 := Tryz.func175.trans (congrArg some (by kernel_rfl))
  f48 := Tryz.func176.trans (congrArg some (by kernel_rfl))
  f49 := ⟨Tryz.f184.name, by decide, Tryz.func184.trans (congrArg some (by kernel_rfl))⟩
  f50 := ⟨Tryz.f185.name, by decide, Tryz.func185.trans (congrArg some (by kernel_rfl))⟩
  f57 := ⟨Tryz.f188.name, by decide, Tryz.func188.trans (congrArg some (by kernel_rfl))⟩
  t0 := Tryz.underlying0
  a0 := Tryz.isAgg0
  z0 := Tryz.sizeOf0
  v0 := Tryz.zeroValue0
  t3 := Tryz.underlying3
  a3 := Tryz.isAgg3
  z3 := Tryz.sizeOf3
  v3 := Tryz.zeroValue3
  t4 := Tryz.underlying4
  a4 := Tryz.isAgg4
  z4 := Tryz.sizeOf4
  v4 := Tryz.zeroValue4
  t5 := Tryz.underlying5
  a5 := Tryz.isAgg5
  z5 := Tryz.sizeOf5
  v5 := Tryz.zeroValue5
  t9 := Tryz.underlying9
  a9 := Tryz.isAgg9
  z9 := Tryz.sizeOf9
  v9 := Tryz.zeroValue9
  t22 := Tryz.underlying146
  a22 := Tryz.isAgg146
  z22 := Tryz.sizeOf146
  v22 := Tryz.zeroValue146
  t25 := Tryz.underlying194
  a25 := Tryz.isAgg194
  z25 := Tryz.sizeOf194
  v25 := Tryz.zeroValue194
  t39 := Tryz.underlying202
  a39 := Tryz.isAgg202
  z39 := Tryz.sizeOf202
  v39 := Tryz.zeroValue202
  t45 := Tryz.underlying219
  a45 := Tryz.isAgg219
  z45 := Tryz.sizeOf219
  v45 := Tryz.zeroValue219
  t46 := Tryz.underlying220
  a46 := Tryz.isAgg220
  z46 := Tryz.sizeOf220
  v46 := Tryz.zeroValue220
  t50 := Tryz.underlying111
  a50 := Tryz.isAgg111
  z50 := Tryz.sizeOf111
  v50 := Tryz.zeroValue111
  t53 := Tryz.underlying226
  a53 := Tryz.isAgg226
  z53 := Tryz.sizeOf226
  v53 := Tryz.zeroValue226
  t55 := Tryz.underlying228
  a55 := Tryz.isAgg228
  z55 := Tryz.sizeOf228
  v55 := Tryz.zeroValue228
  t66 := Tryz.underlying244
  a66 := Tryz.isAgg244
  z66 := Tryz.sizeOf244
  v66 := Tryz.zeroValue244
  t70 := Tryz.underlying248
  a70 := Tryz.isAgg248
  z70 := Tryz.sizeOf248
  v70 := Tryz.zeroValue248
  t76 := Tryz.underlying254
  a76 := Tryz.isAgg254
  z76 := Tryz.sizeOf254
  v76 := Tryz.zeroValue254
  t77 := Tryz.underlying203
  a77 := Tryz.isAgg203
  z77 := Tryz.sizeOf203
  v77 := Tryz.zeroValue203 }
def Tryz.sortWr_ren : Go.Shelf.Ren := ⟨fun | 6 => 98 | 15 => 131 | 14 => 130 | 28 => 151 | 29 => 152 | 20 => 143 | 21 => 144 | 22 => 145 | 23 => 146 | 24 => 147 | 25 => 148 | 26 => 149 | 27 => 150 | 46 => 174 | 47 => 175 | 48 => 176 | 49 => 177 | 50 => 178 | 57 => 186 | n => n, fun | 22 => 41 | 24 => 84 | 25 => 129 | 3 => 3 | 39 => 202 | 0 => 0 | 53 => 226 | 55 => 228 | 4 => 4 | 46 => 220 | 45 => 219 | 50 => 111 | 5 => 5 | 9 => 9 | 66 => 244 | 70 => 248 | 76 => 254 | 77 => 203 | n => n, fun | n => n⟩
theorem Tryz.sortWr : Go.Proofs.SlLaysF0.n6 Tryz.prog Tryz.sortWr_ren := {
  mixed := by kernel_rfl
  f6 := ⟨Tryz.f98.name, by decide, Tryz.func98.trans (congrArg some (by kernel_rfl))⟩
  f14 := ⟨Tryz.f130.name, by decide, Tryz.func130.trans (congrArg some (by kernel_rfl))⟩
  f15 := Tryz.func131.trans (congrArg some (by kernel_rfl))
  f20 := ⟨Tryz.f143.name, by decide, Tryz.func143.trans (congrArg some (by kernel_rfl))⟩
  f21 := ⟨Tryz.f144.name, by decide, Tryz.func144.trans (congrArg some (by kernel_rfl))⟩
  f22 := ⟨Tryz.f145.name, by decide, Tryz.func145.trans (congrArg some (by kernel_rfl))⟩
  f23 := ⟨Tryz.f146.name, by decide, Tryz.func146.trans (congrArg some (by kernel_rfl))⟩
  f24 := ⟨Tryz.f147.name, by decide, Tryz.func147.trans (congrArg some (by kernel_rfl))⟩
  f25 := ⟨Tryz.f148.name, by decide, Tryz.func148.trans (congrArg some (by kernel_rfl))⟩
  f26 := ⟨Tryz.f149.name, by decide, Tryz.func149.trans (congrArg some (by kernel_rfl))⟩
  f27 := ⟨Tryz.f150.name, by decide, Tryz.func150.trans (congrArg some (by kernel_rfl))⟩
  f28 := Tryz.func151.trans (congrArg some (by kernel_rfl))
  f29 := Tryz.func152.trans (congrArg some (by kernel_rfl))
  f46 := ⟨Tryz.f174.name, by decide, Tryz.func174.trans (congrArg some (by kernel_rfl))⟩
  f47 := Tryz.func175.trans (congrArg some (by kernel_rfl))
  f48 := Tryz.func176.trans (congrArg some (by kernel_rfl))
  f49 := ⟨Tryz.f177.name, by decide, Tryz.func177.trans (congrArg some (by kernel_rfl))⟩
  f50 := ⟨Tryz.f178.name, by decide, Tryz.func178.trans (congrArg some (by kernel_rfl))⟩
  f57 := ⟨Tryz.f186.name, by decide, Tryz.func186.trans (congrArg some (by kernel_rfl))⟩
  t0 := Tryz.underlying0
  a0 := Tryz.isAgg0
  z0 := Tryz.sizeOf0
  v0 := Tryz.zeroValue0
  t3 := Tryz.underlying3
  a3 := Tryz.isAgg3
  z3 := Tryz.sizeOf3
  v3 := Tryz.zeroValue3
  t4 := Tryz.underlying4
  a4 := Tryz.isAgg4
  z4 := Tryz.sizeOf4
  v4 := Tryz.zeroValue4
  t5 := Tryz.underlying5
  a5 := Tryz.isAgg5
  z5 := Tryz.sizeOf5
  v5 := Tryz.zeroValue5
  t9 := Tryz.underlying9
  a9 := Tryz.isAgg9
  z9 := Tryz.sizeOf9
  v9 := Tryz.zeroValue9
  t22 := Tryz.underlying41
  a22 := Tryz.isAgg41
  z22 := Tryz.sizeOf41
  v22 := Tryz.zeroValue41
  t25 := Tryz.underlying129
  a25 := Tryz.isAgg129
  z25 := Tryz.sizeOf129
  v25 := Tryz.zeroValue129
  t39 := Tryz.underlying202
  a39 := Tryz.isAgg202
  z39 := Tryz.sizeOf202
  v39 := Tryz.zeroValue202
  t45 := Tryz.underlying219
  a45 := Tryz.isAgg219
  z45 := Tryz.sizeOf219
  v45 := Tryz.zeroValue219
  t46 := Tryz.underlying220
  a46 := Tryz.isAgg220
  z46 := Tryz.sizeOf220
  v46 := Tryz.zeroValue220
  t50 := Tryz.underlying111
  a50 := Tryz.isAgg111
  z50 := Tryz.sizeOf111
  v50 := Tryz.zeroValue111
  t53 := Tryz.underlying226
  a53 := Tryz.isAgg226
  z53 := Tryz.sizeOf226
  v53 := Tryz.zeroValue226
  t55 := Tryz.underlying228
  a55 := Tryz.isAgg228
  z55 := Tryz.sizeOf228
  v55 := Tryz.zeroValue228
  t66 := Tryz.underlying244
  a66 := Tryz.isAgg244
  z66 := Tryz.sizeOf244
  v66 := Tryz.zeroValue244
  t70 := Tryz.underlying248
  a70 := Tryz.isAgg248
  z70 := Tryz.sizeOf248
  v70 := Tryz.zeroValue248
  t76 := Tryz.underlying254
  a76 := Tryz.isAgg254
  z76 := Tryz.sizeOf254
  v76 := Tryz.zeroValue254
  t77 := Tryz.underlying203
  a77 := Tryz.isAgg203
  z77 := Tryz.sizeOf203
  v77 := Tryz.zeroValue203 }
end Go.Proofs
namespace Go.Proofs.YthmofoldmdafoaaGreat
open Go.ChangeShapes Go.WideShapes Go.ChangeAt Go.RowKit Go.Maps Go.Sort Go.Shelf
set_option linter.unusedVariables false
set_option linter.unusedSimpArgs false

theorem flat_cells {α : Type} [Inhabited α] {enc : α → List Value} {k : Nat} (hk : ∀ x, (enc x).length = k) (h0 : 0 < k) (d : List α) : (flatK enc k d.toArray).toList = cellsOf enc d := by
  apply List.ext_getElem?
  intro t
  by_cases ht : t < d.length * k
  · have hq : t / k < d.length := by rw [Nat.div_lt_iff_lt_mul h0]; exact ht
    have hm : t % k < k := Nat.mod_lt _ h0
    have e := cellsOf_at hk d (t / k) (t % k) d[t / k] (List.getElem?_eq_getElem hq) hm
    rw [Nat.mul_comm, Nat.div_add_mod] at e
    rw [e, Array.getElem?_toList]
    have hs : t < (flatK enc k d.toArray).size := by rw [size_flatK]; simpa using ht
    have hg := get_flatK enc k d.toArray t (by simpa using ht)
    rw [getElem!_pos _ t hs] at hg
    rw [Array.getElem?_eq_getElem hs, hg]
    have e2 : d.toArray[t / k]! = d[t / k] := by
      rw [getElem!_pos _ _ (by simpa using hq)]; simp
    rw [e2, getElem!_pos _ _ (by rw [hk]; exact hm), List.getElem?_eq_getElem (by rw [hk]; exact hm)]
  · rw [List.getElem?_eq_none (by rw [Array.length_toList, size_flatK]; simpa using Nat.le_of_not_lt ht), List.getElem?_eq_none (by rw [cellsOf_len hk]; exact Nat.le_of_not_lt ht)]
theorem take_putV (cur F : Array Value) (h : F.size ≤ cur.size) : (putCells id 0 F cur).toList.take F.size = F.toList := by
  apply List.ext_getElem?
  intro j
  by_cases hj : j < F.size
  · rw [List.getElem?_take_of_lt hj, Array.getElem?_toList]
    simp [putCells, hj, show j < cur.size by omega]
  · rw [List.getElem?_take_eq_none (by omega), List.getElem?_eq_none (by simp; omega)]
theorem heap_sortV {w : World} {g n : Nat} {os : Array Obj} {cur : Array Value} {e : TypeId} {fr : Nat × Nat} (F : Array Value) (hb : w.heap[g]? = some (.cells cur e fr)) :
    (grow (putRow id (Sort.ahead w n) g 0 F) os).heap[g]? = some (.cells (putCells id 0 F cur) e fr) := by
  have hg : g < w.heap.size := (Array.getElem?_eq_some_iff.1 hb).1
  rw [heap_grow_old _ _ (by simpa using hg)]
  simp [putRow, mapBlock, Sort.ahead, Array.getElem?_modify, hb, onCells]
theorem grown_sortV {w : World} {g n : Nat} {os : Array Obj} (F : Array Value) : w.grownBy (grow (putRow id (Sort.ahead w n) g 0 F) os) (some g) := by
  refine ⟨rfl, rfl, rfl, by simp, fun k hk hne => ?_⟩
  rw [heap_grow_old _ _ (by simpa using hk)]
  have : g ≠ k := fun e => hne (by rw [e])
  simp [putRow, mapBlock, Sort.ahead, Array.getElem?_modify, this]
theorem holdsV {w : World} {g : Nat} {cur : Array Value} {e : TypeId} (F : Array Value) (hb : w.heap[g]? = some (.cells cur e (0, 0))) (ht : cur.toList.take F.size = F.toList) : Holds id w g 0 F := by
  intro j hj
  refine ⟨?_, by simp [World.frozen?, hb]⟩
  have h1 : (cur.toList.take F.size)[j]? = F.toList[j]? := by rw [ht]
  rw [List.getElem?_take_of_lt hj] at h1
  simp only [World.cell?, hb, Nat.zero_add]
  simp only [Option.isSome_none, Bool.false_eq_true, if_false]
  rw [← Array.getElem?_toList, h1]
  simp [hj]
theorem own_sortK {α : Type} [Inhabited α] {enc : α → List Value} {k : Nat} (hk : ∀ x, (enc x).length = k) (h0 : 0 < k) {w : World} {base g cap n m : Nat} {e : TypeId} {os : Array Obj} {cur : Array Value} {ts : List α} (hl : ts.length = m) (hbase : base ≤ g) (hb : w.heap[g]? = some (.cells cur e (0, 0)))
    (h1 : m ≤ cap) (h2 : cap ≤ maxLen) (h3 : cur.size = cap * k) : (sortWorldK enc k w g 0 n ts.toArray os).ownsRow base e k (.slice (some ⟨g, 0, none⟩) m cap) m (cellsOf enc ts) := by
  subst hl
  have hs : (flatK enc k ts.toArray).size = ts.length * k := by rw [size_flatK]; simp
  refine ⟨cellsOf_len hk ts, .inr ⟨g, cap, _, rfl, hbase, heap_sortV _ hb, h1, h2, by simp [putCells, h3], ?_⟩⟩
  rw [← hs, ← flat_cells hk h0]
  exact take_putV cur _ (by rw [hs, h3]; exact Nat.mul_le_mul_right k h1)
/-- slices.SortFunc, of structs: what lies in the row is sorted. -/
theorem sortF_law {ρ : Ren} (L : SlLaysF0.n6 Tryz.prog ρ) {ty : TypeId} {k : Nat} (h0 : 0 < k) (aE : ∀ w, (isAgg (ρ.t 24)).run Tryz.prog w = .ok true w) (zE : ∀ w, (Go.sizeOf (ρ.t 24)).run Tryz.prog w = .ok k w) {β : Type} (enc : β → List Value) (hk : ∀ x, (enc x).length = k) (h1 : ∀ x, ∀ v ∈ enc x, v.oneCell' = true)
    (cf : β → β → Int) (lt : β → β → Bool) (hcf : ∀ x y, decide (cf x y < 0) = lt x y) (hi : ∀ x, lt x x = false) (ht : ∀ x y z, lt x y = true → lt y z = true → lt x z = true) (hn : ∀ x y z, lt x y = false → lt y z = false → lt x z = false)
    (g : Nat) (eg : ∀ args w, (callFunc g args).run Tryz.prog w = .ok (.enter g args) w) (P : World → β → Prop) (hcall : ∀ W x y, P W x → P W y → Calls Tryz.prog g #[.agg (enc x).toArray, .agg (enc y).toArray] W fun e w' => e = .returned (.int .i64 (cf x y)) ∧ ∃ q os', w' = grow (W.drewN q) os')
    (W : World) (base : Nat) (a : Option Addr) (n c : Nat) (E : List β) (hl : E.length = n) (hn2 : n ≤ 2000000) (how : W.ownsRow base ty k (.slice a n c) n (cellsOf enc E)) (hst : ∀ e ∈ E, Stay (fun k => Value.ownBlock (.slice a n c) = some k) W (fun W' => P W' e)) :
    Calls Tryz.prog (ρ.f 6) #[.slice a n c, .func (.func g) #[] #[]] W fun r W' => r = .returned (.tuple #[]) ∧ ∃ E' : List β, E'.Perm E ∧ (E'.Pairwise fun a b => lt b a = false) ∧ W'.ownsRow base ty k (.slice a n c) n (cellsOf enc E') ∧ Off (fun k => Value.ownBlock (.slice a n c) = some k) W W' := by
  subst hl
  cases E with
  | nil =>
    refine (AnyF.slices_SortFunc_none L a c (.func (.func g) #[] #[]) W).mono ?_
    rintro r w' ⟨rfl, rfl⟩
    exact ⟨rfl, [], .refl _, .nil, how, Off.refl _ _⟩
  | cons e0 E0 =>
    obtain ⟨E, hE⟩ : ∃ E, E = e0 :: E0 := ⟨_, rfl⟩
    rw [← hE] at how hn2 hst ⊢
    rcases how.2 with ⟨_, h⟩ | ⟨b, cap, cur, e1, hb, hg, hc, hm, hs, htk⟩
    · rw [hE] at h; cases h
    · injection e1 with e1 e2 e3
      subst e1 e3
      letI : Inhabited {x : β // x ∈ E} := ⟨⟨e0, by rw [hE]; exact List.mem_cons_self ..⟩⟩
      have hk' : ∀ x : {x : β // x ∈ E}, (enc x.1).length = k := fun x => hk x.1
      have hat : E.attach.length = E.length := List.length_attach
      have hcells : ∀ ts : List {x : β // x ∈ E}, cellsOf (fun x => enc x.1) ts = cellsOf enc (ts.map Subtype.val) := fun ts => by
        unfold cellsOf; rw [List.map_map]; rfl
      have hH : HoldsK (fun x : {x : β // x ∈ E} => enc x.1) k W b 0 E.attach.toArray := by
        refine holdsV _ hg ?_
        rw [flat_cells hk' h0, size_flatK, hcells, List.attach_map_subtype_val]
        simpa using htk
      have hcl : CmpLays Tryz.prog g #[] (fun x : {x : β // x ∈ E} => enc x.1) k (fun x y => cf x.1 y.1) b 0 E.attach.toArray.size W := fun m os dk hdk x y => by
        have ho : Off (fun k => Value.ownBlock (.slice (some ⟨b, 0, none⟩) E.length c) = some k) W (sortWorldK (fun x : {x : β // x ∈ E} => enc x.1) k W b 0 m dk os) := Off.of_row (grown_sortV _)
        exact hcall _ x.1 y.1 (hst x.1 x.2 _ ho) (hst y.1 y.2 _ ho)
      have hO : SWO (ltOf fun x y : {x : β // x ∈ E} => cf x.1 y.1) := by
        have e : ∀ x y : {x : β // x ∈ E}, ltOf (fun x y : {x : β // x ∈ E} => cf x.1 y.1) x y = lt x.1 y.1 := fun x y => hcf x.1 y.1
        exact ⟨fun x => by rw [e]; exact hi _, fun x y z => by rw [e, e, e]; exact ht _ _ _, fun x y z => by rw [e, e, e]; exact hn _ _ _⟩
      have hC := AnyQ.slices_SortFunc L k aE zE (fun x : {x : β // x ∈ E} => enc x.1) hk' (fun x => h1 x.1) (fun x y => cf x.1 y.1) hO g #[] b 0 c E.attach.toArray W eg hcl hH (Array.getElem?_eq_some_iff.1 hg).1 (by simp; omega)
      have hsz : E.attach.toArray.size = E.length := by simp
      rw [hsz] at hC
      refine hC.mono ?_
      rintro r w' ⟨rfl, d', m, os, hp, hsrt, rfl⟩
      have hd : d'.size = E.length := by rw [hp.1]; exact hsz
      refine ⟨rfl, d'.toList.map Subtype.val, ?_, ?_, ?_, Off.of_row (grown_sortV _)⟩
      · have h3 := hp.2.2
        have x1 : d'.extract 0 E.length = d' := by rw [← hd]; exact Array.extract_size
        have x2 : E.attach.toArray.extract 0 E.length = E.attach.toArray := by rw [← hsz]; exact Array.extract_size
        rw [x1, x2] at h3
        have h4 := h3.map Subtype.val
        rwa [List.attach_map_subtype_val] at h4
      · rw [List.pairwise_map, List.pairwise_iff_getElem]
        intro i j hi hj hij
        have hi' : i < d'.size := by simpa using hi
        have hj' : j < d'.size := by simpa using hj
        have := hsrt i j (Nat.zero_le _) hij (by rw [← hd]; exact hj')
        rw [getElem!_pos d' i hi', getElem!_pos d' j hj'] at this
        have e : ltOf (fun x y : {x : β // x ∈ E} => cf x.1 y.1) d'[j] d'[i] = lt d'[j].1 d'[i].1 := hcf _ _
        rw [e] at this
        simpa using this
      · rw [← hcells]
        have := own_sortK (enc := fun x : {x : β // x ∈ E} => enc x.1) hk' h0 (n := m) (os := os) (ts := d'.toList) (by rw [Array.length_toList]; exact hd) hb hg hc hm hs
        simpa using this
end Go.Proofs.YthmofoldmdafoaaGreat
namespace Go.Proofs.YthmofoldmdafoaaGreat
open Go.ChangeShapes Go.WideShapes Go.ChangeAt Go.RowKit Go.Maps Go.Sort Go.Shelf
set_option linter.unusedVariables false
set_option linter.unusedSimpArgs false

set_option maxRecDepth 100000 in
set_option maxHeartbeats 4000000 in
/-- entries$1 (120). -/
theorem closEn (x y : EnV) (W : World) (hx : Ls .u8 W x.ka x.kc x.K) (hy : Ls .u8 W y.ka y.kc y.K) (bx : Byt x.K) (bb : Byt y.K) :
    Calls Tryz.prog 120 #[.agg (ecl x).toArray, .agg (ecl y).toArray] W fun e w' => e = .returned (.int .i64 (cmpL x.K y.K)) ∧ ∃ q os', w' = grow (W.drewN q) os' := by
  have HB := Lib.hid (And.intro bx bb)
  have h2 := ((hx.below (bl1 W (.cells (ecl x).toArray 149))).below (bl1 _ (.cells (ecl y).toArray 149)))
  have h3 := ((hy.below (bl1 W (.cells (ecl x).toArray 149))).below (bl1 _ (.cells (ecl y).toArray 149)))
  have HL := Lib.hid (And.intro h2 h3)
  clear h2 h3 hx hy bx bb
  unfold ecl at *
  go_enter Tryz.func120, Tryz.ntmps120
  go_wp2_with fail
  refine (bcmp_law x.ka y.ka x.K y.K _ _ x.kc y.kc rfl rfl HB.out.1 HB.out.2 _ HL.out.1 HL.out.2).mono ?_; rintro r w' ⟨rfl, rfl⟩
  go_wp2_with fail
  go_ret
  exact ⟨rfl, 0, _, by rw [alloc_eq_grow, alloc_eq_grow, grow_grow]; rfl⟩
theorem cmpL_lt (A B : List Int) : decide (cmpL A B < 0) = ltL A B := by
  unfold cmpL
  cases h : ltL A B
  · cases h2 : ltL B A <;> simp
  · simp
/-- Entries are sorted. -/
theorem esort : ESort := fun W base a n c E hl hn how hst =>
  sortF_law Tryz.sortEn (by omega) Tryz.isAgg149 Tryz.sizeOf149 ecl ecl_len ecl_one (fun x y => cmpL x.K y.K) (fun x y => ltL x.K y.K) (fun x y => cmpL_lt _ _) (fun x => ltL_irr _) (fun x y z => ltL_trans) (fun x y z h1 h2 => by
    have := leL_trans z.K y.K x.K (by unfold leL; rw [h2]; rfl) (by unfold leL; rw [h1]; rfl)
    unfold leL at this
    simpa using this) 120 (enters_of Tryz.func120 (by kernel_rfl) rfl) (fun W e => Byt e.K ∧ Ls .u8 W e.ka e.kc e.K) (fun W x y hx hy => closEn x y W hx.2 hy.2 hx.1 hy.1) W base a n c E hl hn how (fun e he => (hst e he).2.mono fun W' h => ⟨(hst e he).1, h.k⟩)
end Go.Proofs.YthmofoldmdafoaaGreat
namespace Go.Proofs.YthmofoldmdafoaaGreat
open Go.ChangeShapes Go.WideShapes Go.ChangeAt Go.RowKit Go.Maps
set_option linter.unusedVariables false
set_option linter.unusedSimpArgs false

def WtV.W (y : WtV) : WrV := ⟨y.t, y.ka, y.kc, y.K, y.r⟩
theorem own_wr {W : World} {base n c : Nat} {a : Option Addr} {L : List WtV} (h : W.ownsRow base 84 3 (.slice a n c) n (cellsOf wcl L)) (hn : L.length = n) (ok : ∀ y ∈ L, Ls .u8 W y.ka y.kc y.K ∧ RdR W y.r.ra y.r.R) : WrR W a (L.map WtV.W) := fun k x hx => by
  rw [List.getElem?_map] at hx
  cases hy : L[k]? with
  | none => rw [hy] at hx; cases hx
  | some y =>
    rw [hy] at hx
    cases hx
    obtain ⟨g, rfl, _, hc⟩ := own_cell22 wcl_len (by omega) h hn k y hy
    refine ⟨g, 0, rfl, ?_, ?_, ?_, ok y (List.mem_of_getElem? hy)⟩
    · have := hc 0 (by omega); rw [Nat.add_zero] at this; rw [Nat.zero_add]; exact this
    · have := hc 1 (by omega); rw [Nat.zero_add]; exact this
    · have := hc 2 (by omega); rw [Nat.zero_add]; exact this
theorem own_res {W : World} {base n c : Nat} {a : Option Addr} {L : List ResV} (h : W.ownsRow base 81 2 (.slice a n c) n (cellsOf rcl L)) (hn : L.length = n) (ok : ∀ y ∈ L, PairsR W y.pa y.P) : ResR W a L := fun k y hy => by
  obtain ⟨g, rfl, _, hc⟩ := own_cell22 rcl_len (by omega) h hn k y hy
  refine ⟨g, 0, rfl, ?_, ?_, ok y (List.mem_of_getElem? hy)⟩
  · have := hc 0 (by omega); rw [Nat.add_zero] at this; rw [Nat.zero_add]; exact this
  · have := hc 1 (by omega); rw [Nat.zero_add]; exact this
/-- Writes, with whole numbers for their tables. -/
def wsI (l : Ws) : List (Int × List Int × List (List Int)) := l.map fun w => ((w.1 : Int), w.2)
theorem wI_W (ws : List WtV) : (ws.map WtV.W).map WrV.P = wsI (ws.map WtV.P) := by
  unfold wsI
  rw [List.map_map, List.map_map]; rfl
theorem MdR.less {S S' : Nat → Prop} {w : World} {m : Md} (h : MdR S' w m) (hs : ∀ k, S k → S' k) (ht : ∀ x ∈ m.tabs, S x.1) : MdR S w m := h.off (T := fun _ => False) (Off.refl _ _) (fun _ h => h.elim) (fun _ _ h => h) (fun k hk => .inl (hs k hk)) ht
/-- What a trial that ended is, to those that know nothing of it. -/
theorem TrO.out {S S' : Nat → Prop} {base : Nat} {w : World} {m : Md} {px : Nat} {wv rv : Value} {ws : List WtV} {rs : List ResV} (h : TrO S' base w m px wv rv ws rs) (hs : ∀ k, S k → S' k) (hb : ∀ k, S k → k < base) (ht : ∀ x ∈ m.tabs, S x.1) :
    MdR S w m ∧ (∃ a c, wv = .slice a ws.length c ∧ Stay S w fun W => WrR W a (ws.map WtV.W)) ∧ (∃ a c, rv = .slice a rs.length c ∧ Stay S w fun W => ResR W a rs) ∧ (ws.map WtV.W).all (wrB m.tabs.length) = true ∧
    ∀ x ∈ ws.map WtV.W, Byt x.K ∧ x.K.length ≤ 1000000 ∧ x.r.R.length ≤ 1000000 ∧ ∀ p ∈ x.r.R, Byt p.bs := by
  refine ⟨h.md.less hs ht, ?_, ?_, ?_, ?_⟩
  · obtain ⟨a, c, e⟩ := own_form22 h.own
    have ho := h.own
    rw [e] at ho
    exact ⟨a, c, e, fun W' o => own_wr (own_off22 ho o hb) rfl fun y hy => (h.wst y hy).less hs W' o⟩
  · obtain ⟨a, c, e⟩ := own_form22 h.rown
    have ho := h.rown
    rw [e] at ho
    exact ⟨a, c, e, fun W' o => own_res (own_off22 ho o hb) rfl fun y hy => (h.rst y hy).less hs W' o⟩
  · rw [List.all_eq_true]
    intro x hx
    obtain ⟨y, hy, rfl⟩ := List.mem_map.1 hx
    obtain ⟨h1, h2, h3⟩ := h.wok y hy
    have k1 : mayK y.K.length = true := by unfold mayK; rw [decide_eq_true_eq]; exact h2.2
    unfold wrB
    show (decide (0 ≤ (y.t : Int) ∧ (y.t : Int) < (m.tabs.length : Int)) && mayK y.K.length && (decide (y.r.R.length = 0) || mayR y.r.R)) = true
    rw [k1, decide_eq_true (by omega)]
    by_cases e : y.r.R = []
    · rw [e]; rfl
    · have hr := h3 e
      unfold RV.P at hr
      unfold mayR allB
      simp only [Bool.and_eq_true, Bool.or_eq_true, decide_eq_true_eq, List.all_eq_true]
      refine ⟨⟨trivial, trivial⟩, .inr ⟨fun p hp => ?_, ?_, ?_⟩⟩
      · have := (hr.2.2 p.bs (List.mem_map.2 ⟨p, hp, rfl⟩)).2
        simpa using this
      · have := hr.1; rw [List.length_map] at this; exact this
      · have := hr.2.1; rw [List.length_map] at this; exact this
  · intro x hx
    obtain ⟨y, hy, rfl⟩ := List.mem_map.1 hx
    obtain ⟨h1, h2, h3⟩ := h.wok y hy
    have hkl := h2.2.2
    refine ⟨h2.1, by show y.K.length ≤ 1000000; omega, ?_, fun p hp => ?_⟩
    · by_cases e : y.r.R = []
      · show y.r.R.length ≤ 1000000; rw [e]; simp
      · have := (h3 e).2.1
        unfold RV.P at this
        rw [List.length_map] at this
        show y.r.R.length ≤ 1000000; omega
    · have hp : p ∈ y.r.R := hp
      have hr := h3 (List.ne_nil_of_mem hp)
      exact rOk_byt hr p hp
theorem Off.cell {S : Nat → Prop} {W W' : World} (o : Off S W W') {p : Addr} {v : Value} (h : W.cell? p = some v) (hn : ¬ S p.block) : W'.cell? p = some v := by
  have := o.block p.block (World.block_lt_of_cell? W _ h) hn
  rw [← h]
  unfold World.cell?
  rw [this]
/-- What a transaction does, in plain words. -/
def ansP (j : Job) (T : List (List Pr)) (x : TxnV) : List (Int × List Pr) := (runP j T x.ops).1
def wrtP (j : Job) (T : List (List Pr)) (x : TxnV) : Ws := if x.ab then [] else (runP j T x.ops).2
/-- How Try ends. -/
def TryR (S : Nat → Prop) (w : World) (m : Md) (x : TxnV) (r : Ending) (w' : World) : Prop :=
  if mayT m.j x then ∃ a c rs, r = .returned (.tuple #[.slice a rs.length c, .int .i64 0]) ∧ Below w.heap.size w w' ∧ rs.map resC = ansP m.j m.P x ∧ (∀ y ∈ rs, ResOk y) ∧ Stay S w' fun W => ResR W a rs
  else r = .returned (.tuple #[.slice none 0 0, .int .i64 2]) ∧ Below w.heap.size w w'
set_option maxRecDepth 100000 in
set_option maxHeartbeats 4000000 in
/-- Try (40). -/
theorem try_law {S : Nat → Prop} {m : Md} {w : World} (h : MdR S w m) (hS : ∀ k, S k → k < w.heap.size) (x : TxnV) (hx : Stay S w fun W => TxnAt W x) (hon : x.on ≤ 1000000) (hrn : ∀ o ∈ x.ops, o.rn ≤ 1000000) (hf : ∀ z ∈ m.tabs, z.2.length ≤ 300000) :
    Calls Tryz.prog 40 #[.pointer (some ⟨m.p, 0, none⟩), .agg #[.slice x.oa x.on x.oc, .bool x.sn, .bool x.ab]] w (TryR S w m x) := by
  have HH := Lib.hid (And.intro h hS)
  have hb : Below w.heap.size w (w.alloc (.cells #[.slice x.oa x.on x.oc, .bool x.sn, .bool x.ab] 38)) := bl1 _ _
  have HB := Lib.hid hb
  have HTR := Lib.hid (trial_law esort (h.below hb) (fun k hk => Nat.lt_of_lt_of_le (hS k hk) hb.size) x (hx.below hb) hon hrn hf)
  clear h hS hx hon hrn hf hb
  go_enter Tryz.func40, Tryz.ntmps40
  go_wp2_with fail
  refine HTR.out.mono ?_; intro r w2 hr
  unfold TrR at hr
  cases hm : mayT m.j x with
  | false =>
    rw [hm] at hr
    obtain ⟨rfl, hb2⟩ := hr
    have HB2 := Lib.hid (HB.out.trans (hb2.mono HB.out.size))
    have HR := Lib.hid (fun r w' (hh : r = .returned (.tuple #[.slice none 0 0, .int .i64 2]) ∧ Below w.heap.size w w') => (by unfold TryR; rw [hm]; exact hh : TryR S w m x r w'))
    clear hm hb2
    go_wp2_with fail
    go_ret2
    exact HR.out _ _ ⟨rfl, HB2.out⟩
  | true =>
    rw [hm] at hr
    obtain ⟨S', base, px, wv, rv, ws, rs, rfl, hb2, hbs, ho, hss, _, hrs, _⟩ := hr
    have HB2 := Lib.hid (HB.out.trans (hb2.mono HB.out.size))
    obtain ⟨_, _, ⟨a, c, e, hst⟩, _, _⟩ := ho.out (S := S) hss (fun k hk => Nat.lt_of_lt_of_le (HH.out.2 k hk) (Nat.le_trans HB.out.size hbs)) HH.out.1.hS
    have c3 := ho.c3
    rw [e] at c3
    have HRS := Lib.hid (And.intro hrs (And.intro ho.rok hst))
    have HR := Lib.hid (fun r w' (hh : ∃ a c rs, r = .returned (.tuple #[.slice a rs.length c, .int .i64 0]) ∧ Below w.heap.size w w' ∧ rs.map resC = ansP m.j m.P x ∧ (∀ y ∈ rs, ResOk y) ∧ Stay S w' fun W => ResR W a rs) => (by unfold TryR; rw [hm]; exact hh : TryR S w m x r w'))
    clear hm hb2 hbs ho hss hrs e hst
    go_wp2_with fail
    go_ret2
    exact HR.out _ _ ⟨a, c, rs, rfl, HB2.out, HRS.out.1, HRS.out.2.1, HRS.out.2.2⟩
end Go.Proofs.YthmofoldmdafoaaGreat
namespace Go.Proofs.YthmofoldmdafoaaGreat
open Go.ChangeShapes Go.WideShapes Go.ChangeAt Go.RowKit Go.Maps
set_option linter.unusedVariables false
set_option linter.unusedSimpArgs false

/-- How Do ends. -/
def DoR (S : Nat → Prop) (w : World) (m : Md) (x : TxnV) (r : Ending) (w' : World) : Prop :=
  if mayT m.j x then ∃ m' a c rs, r = .returned (.tuple #[.slice a rs.length c, .int .i64 0]) ∧ MdR S w' m' ∧ MdSame m m' ∧ m'.P = applyT m.P (wsI (wrtP m.j m.P x)) ∧ Off (Maps' m) w w' ∧ (∀ N : Nat, (∀ x ∈ m.tabs, x.2.length ≤ N) → ∀ x ∈ m'.tabs, x.2.length ≤ N + 16) ∧ rs.map resC = ansP m.j m.P x ∧ (∀ y ∈ rs, ResOk y) ∧ Stay S w' fun W => ResR W a rs
  else r = .returned (.tuple #[.slice none 0 0, .int .i64 2]) ∧ Below w.heap.size w w'
set_option maxRecDepth 100000 in
set_option maxHeartbeats 4000000 in
/-- Do (24). -/
theorem do_law {S : Nat → Prop} {m : Md} {w : World} (h : MdR S w m) (hS : ∀ k, S k → k < w.heap.size) (x : TxnV) (hx : Stay S w fun W => TxnAt W x) (hon : x.on ≤ 1000000) (hrn : ∀ o ∈ x.ops, o.rn ≤ 1000000) (hf : ∀ z ∈ m.tabs, z.2.length ≤ 300000) :
    Calls Tryz.prog 24 #[.pointer (some ⟨m.p, 0, none⟩), .agg #[.slice x.oa x.on x.oc, .bool x.sn, .bool x.ab]] w (DoR S w m x) := by
  have HH := Lib.hid (And.intro h (And.intro hS hf))
  have hb : Below w.heap.size w (w.alloc (.cells #[.slice x.oa x.on x.oc, .bool x.sn, .bool x.ab] 38)) := bl1 _ _
  have HB := Lib.hid hb
  have HTR := Lib.hid (trial_law esort (h.below hb) (fun k hk => Nat.lt_of_lt_of_le (hS k hk) hb.size) x (hx.below hb) hon hrn hf)
  clear h hS hx hon hrn hf hb
  go_enter Tryz.func24, Tryz.ntmps24
  go_wp2_with fail
  refine HTR.out.mono ?_; intro r w2 hr
  unfold TrR at hr
  cases hm : mayT m.j x with
  | false =>
    rw [hm] at hr
    obtain ⟨rfl, hb2⟩ := hr
    have HB2 := Lib.hid (HB.out.trans (hb2.mono HB.out.size))
    have HR := Lib.hid (fun r w' (hh : r = .returned (.tuple #[.slice none 0 0, .int .i64 2]) ∧ Below w.heap.size w w') => (by unfold DoR; rw [hm]; exact hh : DoR S w m x r w'))
    clear hm hb2
    go_wp2_with fail
    go_ret2
    exact HR.out _ _ ⟨rfl, HB2.out⟩
  | true =>
    rw [hm] at hr
    obtain ⟨S', base, px, wv, rv, ws, rs, rfl, hb2, hbs, ho, hss, _, hrs, hws⟩ := hr
    have HB2 := Lib.hid (HB.out.trans (hb2.mono HB.out.size))
    obtain ⟨hmd, ⟨a1, c1, e1, hwst⟩, ⟨a, c, e, hst⟩, hall, hwb⟩ := ho.out (S := S) hss (fun k hk => Nat.lt_of_lt_of_le (HH.out.2.1 k hk) (Nat.le_trans HB.out.size hbs)) HH.out.1.hS
    have c3 := ho.c3
    have c2 := ho.c2
    rw [e] at c3
    rw [e1] at c2
    have HRS := Lib.hid (And.intro hrs (And.intro ho.rok hst))
    have HR := Lib.hid (fun r w' (hh : ∃ m' a c rs, r = .returned (.tuple #[.slice a rs.length c, .int .i64 0]) ∧ MdR S w' m' ∧ MdSame m m' ∧ m'.P = applyT m.P (wsI (wrtP m.j m.P x)) ∧ Off (Maps' m) w w' ∧ (∀ N : Nat, (∀ x ∈ m.tabs, x.2.length ≤ N) → ∀ x ∈ m'.tabs, x.2.length ≤ N + 16) ∧ rs.map resC = ansP m.j m.P x ∧ (∀ y ∈ rs, ResOk y) ∧ Stay S w' fun W => ResR W a rs) => (by unfold DoR; rw [hm]; exact hh : DoR S w m x r w'))
    have hd := (Below.refl w2.heap.size w2).drew
    have HAP := Lib.hid (show Calls Tryz.prog 16 #[.pointer (some ⟨m.p, 0, none⟩), .slice a1 ws.length c1] w2.drew (fun r w' => ∃ m', r = .returned (.int .i64 0) ∧ MdR S w' m' ∧ MdSame m m' ∧ m'.P = applyT m.P (wsI (wrtP m.j m.P x)) ∧ Off (Maps' m) w2 w' ∧ ∀ N : Nat, (∀ x ∈ m.tabs, x.2.length ≤ N) → ∀ x ∈ m'.tabs, x.2.length ≤ N + 16) from
      (mapply_law (hmd.below hd) (fun k hk => Nat.lt_of_lt_of_le (HH.out.2.1 k hk) (Nat.le_trans HB2.out.size hd.size)) a1 ws.length c1 (ws.map WtV.W) (List.length_map _) (by have := ho.few; omega) (hwst.below hd) hwb (fun z hz => by have := HH.out.2.2 z hz; omega)).mono (by
        rintro r w' ⟨m', hr, h1, h2, h3, h4, h5⟩
        rw [hall] at hr h3
        refine ⟨m', hr, h1, h2, ?_, (Off.of hd).trans h4, fun N hN z hz => ?_⟩
        · rw [wI_W, hws] at h3; exact h3
        · have := h5 N hN z hz
          rw [List.length_map] at this
          have := ho.few
          omega))
    have HNP := Lib.hid (show ¬ Maps' m px from fun hk => by
      obtain ⟨z, hz, e⟩ := hk
      have h1 := HH.out.2.1 _ (HH.out.1.hS z hz)
      have h2 := ho.lo
      have := HB.out.size
      omega)
    clear hm hb2 hbs ho hss hrs hws e hst hmd e1 hwst hall hwb hd
    go_upto_region 4 with (fail)
    refine wp_region_held_drew (S := (fun X => X.cell? ⟨px, 3, none⟩ = some (.slice a rs.length c) ∧ X.cell? ⟨px, 2, none⟩ = some (.slice a1 ws.length c1))) (by kernel_rfl) (⟨c3, c2⟩) (fun hHeld => ?_)
    refine tp 0 ?_ rfl (.inl ⟨by rfl, ?_⟩) ?_
    rotate_left
    · intro W hSw; go_simp; try with_reducible rfl
    refine tp 1 ?_ rfl (.inl ⟨by rfl, ?_⟩) ?_
    rotate_left
    · intro W hSw; go_simp; try with_reducible rfl
    refine tp 2 ?_ rfl (.inl ⟨by rfl, ?_⟩) ?_
    rotate_left
    · intro W hSw; go_simp; try with_reducible rfl
    refine tp 3 ?_ rfl (.inl ⟨by rfl, ?_⟩) ?_
    rotate_left
    · intro W hSw; have m0 := hSw.1; go_simp; try with_reducible rfl
    refine tp 4 ?_ rfl (.inl ⟨by rfl, ?_⟩) ?_
    rotate_left
    · intro W hSw; go_simp; try with_reducible rfl
    refine tp 5 ?_ rfl (.inl ⟨by rfl, ?_⟩) ?_
    rotate_left
    · intro W hSw; go_simp; try with_reducible rfl
    refine tp 6 ?_ rfl (.inl ⟨by rfl, ?_⟩) ?_
    rotate_left
    · intro W hSw; go_simp; try with_reducible rfl
    refine tp 7 ?_ rfl (.inl ⟨by rfl, ?_⟩) ?_
    rotate_left
    · intro W hSw; go_simp; try with_reducible rfl
    refine tp 8 ?_ rfl (.inl ⟨by rfl, ?_⟩) ?_
    rotate_left
    · intro W hSw; have m0 := hSw.2; go_simp; try with_reducible rfl
    refine wpAnyH_ready (rs := [9]) (by kernel_rfl) (by simp) ?_
    refine AllReadyH.cons (o := { dst := some 26, op := Op.call { callee := Callee.value (Operand.func 16), args := #[Operand.tmp 21, Operand.tmp 25], argTypes := #[28, 41] }, type := 29, pos := "model.go:65", after := #[{ on := 4, ground := Ground.data }, { on := 8, ground := Ground.data }], guard := none }) rfl (fun K hK => ?_) AllReadyH.nil
    go_simp
    refine HAP.out.mono ?_; rintro r w3 ⟨m2, rfl, hmd, hsm, hmp, hof, hgr⟩
    have HM := Lib.hid (And.intro hmd (And.intro hsm (And.intro hmp (And.intro hof hgr))))
    go_wp2_with fail
    refine hK.out _ _ ⟨hof.cell hHeld.1 HNP.out, hof.cell hHeld.2 HNP.out⟩ (fun hHeldn => ?_)
    clear hmd hsm hmp hof hgr
    clear hK K hHeld; have hHeld := hHeldn; clear hHeldn
    try simp only [Act.put, List.setIfInBounds_toArray, List.set_cons_zero, List.set_cons_succ]
    refine tp 10 ?_ rfl (.inl ⟨by rfl, ?_⟩) ?_
    rotate_left
    · intro W hSw; go_simp; try with_reducible rfl
    refine tp 11 ?_ rfl (.inl ⟨by rfl, ?_⟩) ?_
    rotate_left
    · intro W hSw; go_simp; try with_reducible rfl
    refine wpAnyH_done (by kernel_rfl) ?_ _
    skip
    go_wp2_with fail
    go_ret2
    obtain ⟨q1, q2, q3, q4, q5⟩ := HM.out
    refine HR.out _ _ ⟨m2, a, c, rs, rfl, q1, q2, q3, (Off.of HB2.out).trans q4, q5, HRS.out.1, HRS.out.2.1, HRS.out.2.2.off (q4.mono fun k hk => by obtain ⟨z, hz, rfl⟩ := hk; exact HH.out.1.hS z hz)⟩
end Go.Proofs.YthmofoldmdafoaaGreat
namespace Go.Proofs.YthmofoldmdafoaaGreat
open Go.ChangeShapes Go.WideShapes Go.ChangeAt Go.RowKit Go.Maps Go.Sort Go.Shelf
set_option linter.unusedVariables false
set_option linter.unusedSimpArgs false

/-- Writes in their order: by table, then by key. -/
def cmpW (x y : WtV) : Int := if x.t = y.t then cmpL x.K y.K else (x.t : Int) - (y.t : Int)
def ltW (x y : WtV) : Bool := decide (x.t < y.t) || (decide (x.t = y.t) && ltL x.K y.K)
theorem cmpW_lt (x y : WtV) : decide (cmpW x y < 0) = ltW x y := by
  unfold cmpW ltW
  by_cases e : x.t = y.t
  · rw [if_pos e, cmpL_lt, decide_eq_true e, decide_eq_false (by omega)]; simp
  · rw [if_neg e, decide_eq_false e]
    by_cases h : x.t < y.t
    · rw [decide_eq_true h, decide_eq_true (by omega)]; rfl
    · rw [decide_eq_false h, decide_eq_false (by omega)]; rfl
theorem ltW_iff {x y : WtV} : ltW x y = true ↔ x.t < y.t ∨ (x.t = y.t ∧ ltL x.K y.K = true) := by
  unfold ltW
  simp
theorem ltW_not {x y : WtV} : ltW x y = false ↔ y.t < x.t ∨ (y.t = x.t ∧ ltL x.K y.K = false) := by
  constructor
  · intro h
    by_cases h1 : x.t < y.t
    · rw [ltW_iff.2 (.inl h1)] at h; cases h
    · by_cases e : x.t = y.t
      · refine .inr ⟨e.symm, ?_⟩
        cases hl : ltL x.K y.K
        · rfl
        · rw [ltW_iff.2 (.inr ⟨e, hl⟩)] at h; cases h
      · exact .inl (by omega)
  · intro h
    cases hc : ltW x y
    · rfl
    · rcases ltW_iff.1 hc with h1 | ⟨h1, h2⟩ <;> rcases h with h3 | ⟨h3, h4⟩
      · omega
      · omega
      · omega
      · rw [h2] at h4; cases h4
theorem ltW_irr (x : WtV) : ltW x x = false := ltW_not.2 (.inr ⟨rfl, ltL_irr _⟩)
theorem ltW_trans (x y z : WtV) (h : ltW x y = true) (k : ltW y z = true) : ltW x z = true := by
  rcases ltW_iff.1 h with h1 | ⟨h1, h2⟩ <;> rcases ltW_iff.1 k with h3 | ⟨h3, h4⟩
  · exact ltW_iff.2 (.inl (by omega))
  · exact ltW_iff.2 (.inl (by omega))
  · exact ltW_iff.2 (.inl (by omega))
  · exact ltW_iff.2 (.inr ⟨by omega, ltL_trans h2 h4⟩)
theorem ltW_ntrans (x y z : WtV) (h : ltW x y = false) (k : ltW y z = false) : ltW x z = false := by
  rcases ltW_not.1 h with h1 | ⟨h1, h2⟩ <;> rcases ltW_not.1 k with h3 | ⟨h3, h4⟩
  · exact ltW_not.2 (.inl (by omega))
  · exact ltW_not.2 (.inl (by omega))
  · exact ltW_not.2 (.inl (by omega))
  · refine ltW_not.2 (.inr ⟨by omega, ?_⟩)
    have := leL_trans z.K y.K x.K (by unfold leL; rw [h4]; rfl) (by unfold leL; rw [h2]; rfl)
    unfold leL at this
    simpa using this
set_option maxRecDepth 100000 in
set_option maxHeartbeats 4000000 in
/-- Writes$1 (69). -/
theorem closWr (x y : WtV) (W : World) (hx : Ls .u8 W x.ka x.kc x.K) (hy : Ls .u8 W y.ka y.kc y.K) (bx : Byt x.K) (bb : Byt y.K) (tx : x.t ≤ 1000000) (ty : y.t ≤ 1000000) :
    Calls Tryz.prog 69 #[.agg (wcl x).toArray, .agg (wcl y).toArray] W fun e w' => e = .returned (.int .i64 (cmpW x y)) ∧ ∃ q os', w' = grow (W.drewN q) os' := by
  have HB := Lib.hid (And.intro bx bb)
  have h2 := ((hx.below (bl1 W (.cells (wcl x).toArray 84))).below (bl1 _ (.cells (wcl y).toArray 84)))
  have h3 := ((hy.below (bl1 W (.cells (wcl x).toArray 84))).below (bl1 _ (.cells (wcl y).toArray 84)))
  have HL := Lib.hid (And.intro h2 h3)
  clear h2 h3 hx hy bx bb
  unfold cmpW
  unfold wcl RV.v at *
  by_cases e : x.t = y.t
  · rw [if_pos e]
    have d : ((x.t : Int) == (y.t : Int)) = true := by simp [e]
    have d2 : ((x.t : Int) != (y.t : Int)) = false := by simp [e]
    clear e
    go_enter Tryz.func69, Tryz.ntmps69
    go_wp2_with fail
    refine (bcmp_law x.ka y.ka x.K y.K _ _ x.kc y.kc rfl rfl HB.out.1 HB.out.2 _ HL.out.1 HL.out.2).mono ?_; rintro r w' ⟨rfl, rfl⟩
    go_wp2_with fail
    go_ret
    exact ⟨rfl, 0, _, by rw [alloc_eq_grow, alloc_eq_grow, grow_grow]; rfl⟩
  · rw [if_neg e]
    have d : ((x.t : Int) == (y.t : Int)) = false := by simp; omega
    have d2 : ((x.t : Int) != (y.t : Int)) = true := by simp; omega
    clear e
    go_enter Tryz.func69, Tryz.ntmps69
    go_wp2_with fail
    go_ret
    refine ⟨?_, 0, _, by rw [alloc_eq_grow, alloc_eq_grow, grow_grow]; rfl⟩
    go_num
/-- Writes are sorted (98). -/
theorem wsort_law (W : World) (base : Nat) (a : Option Addr) (n c : Nat) (E : List WtV) (hl : E.length = n) (hn : n ≤ 2000000) (how : W.ownsRow base 84 3 (.slice a n c) n (cellsOf wcl E)) (hst : ∀ y ∈ E, (Byt y.K ∧ y.t ≤ 1000000) ∧ Stay (fun k => Value.ownBlock (.slice a n c) = some k) W (fun W' => Ls .u8 W' y.ka y.kc y.K)) :
    Calls Tryz.prog 98 #[.slice a n c, .func (.func 69) #[] #[]] W fun r W' => r = .returned (.tuple #[]) ∧ ∃ E' : List WtV, E'.Perm E ∧ (E'.Pairwise fun a b => ltW b a = false) ∧ W'.ownsRow base 84 3 (.slice a n c) n (cellsOf wcl E') ∧ Off (fun k => Value.ownBlock (.slice a n c) = some k) W W' :=
  sortF_law Tryz.sortWr (by omega) Tryz.isAgg84 Tryz.sizeOf84 wcl wcl_len wcl_one cmpW ltW cmpW_lt ltW_irr ltW_trans ltW_ntrans 69 (enters_of Tryz.func69 (by kernel_rfl) rfl) (fun W e => (Byt e.K ∧ e.t ≤ 1000000) ∧ Ls .u8 W e.ka e.kc e.K) (fun W x y hx hy => closWr x y W hx.2 hy.2 hx.1.1 hy.1.1 hx.1.2 hy.1.2) W base a n c E hl hn how (fun e he => (hst e he).2.mono fun W' h => ⟨(hst e he).1, h⟩)
end Go.Proofs.YthmofoldmdafoaaGreat
namespace Go.Proofs.YthmofoldmdafoaaGreat
open Go.ChangeShapes Go.WideShapes Go.ChangeAt Go.RowKit Go.Maps Go.Shelf
set_option linter.unusedVariables false
set_option linter.unusedSimpArgs false

attribute [local go_sem] Oper.semAt_some
def encW (y : WtV) : Array Value := #[.agg (wcl y).toArray]
/-- Writes, but for what hangs on them. -/
def WtC (W : World) (a : Option Addr) (L : List WtV) : Prop := ∀ (k : Nat) (y : WtV), L[k]? = some y → ∃ b off, a = some ⟨b, off, none⟩ ∧ W.cell? ⟨b, off + k * 3, none⟩ = some (.int .i64 y.t) ∧ W.cell? ⟨b, off + k * 3 + 1, none⟩ = some (.slice y.ka y.K.length y.kc) ∧ W.cell? ⟨b, off + k * 3 + 2, none⟩ = some (.slice y.r.ra y.r.R.length y.r.rc)
theorem WtC.below {B : Nat} {W W' : World} {a : Option Addr} {L : List WtV} (h : WtC W a L) (hb : Below W.heap.size W W') : WtC W' a L := fun k x hx => by
  obtain ⟨b, off, e, c0, c1, c2⟩ := h k x hx
  have f : ∀ {p v}, W.cell? p = some v → W'.cell? p = some v := fun h => (hb.cell (World.block_lt_of_cell? W _ h)).trans h
  exact ⟨b, off, e, f c0, f c1, f c2⟩
theorem own_wtc {W : World} {base n c : Nat} {a : Option Addr} {L : List WtV} (h : W.ownsRow base 84 3 (.slice a n c) n (cellsOf wcl L)) (hn : L.length = n) : WtC W a L := fun k y hy => by
  obtain ⟨g, rfl, _, hc⟩ := own_cell22 wcl_len (by omega) h hn k y hy
  refine ⟨g, 0, rfl, ?_, ?_, ?_⟩
  · have := hc 0 (by omega); rw [Nat.add_zero] at this; rw [Nat.zero_add]; exact this
  · have := hc 1 (by omega); rw [Nat.zero_add]; exact this
  · have := hc 2 (by omega); rw [Nat.zero_add]; exact this
set_option maxRecDepth 100000 in
set_option maxHeartbeats 4000000 in
/-- slices.Values (68). -/
theorem wvals_law (w : World) (v : Value) (a : Option Addr) (n c : Nat) (hv : v = .slice a n c) : Calls Tryz.prog 68 #[v] w fun e w' => e = .returned (.func (.func 99) #[] #[.pointer (some ⟨w.heap.size, 0, none⟩)]) ∧ w' = w.alloc (.cells #[v] 41) := by
  subst hv
  have hmf := makeFunc_run
  go_enter Tryz.func68, Tryz.ntmps68
  go_wp2
  go_ret
  exact ⟨rfl, rfl⟩
set_option maxRecDepth 100000 in
set_option maxHeartbeats 4000000 in
/-- .. its iterator (99). -/
theorem wvals_stops (mm : Nat) (hm : 1 ≤ mm) (Bs : Nat) (a : Option Addr) (n c : Nat) (L : List WtV) (w : World) (hB : Boxed w Bs 41 (.slice a n c)) (hn : L.length = n) (hn2 : n ≤ 1000000) (hL : WtC w a L) :
    SeqStopsK Fence.wide mm Tryz.prog 99 #[.pointer (some ⟨Bs, 0, none⟩)] encW (Below w.heap.size) (fun ss => ss = L) (fun pre => True) n w := fun lp J Jx W hW hJ _ hY h0 => by
  have hb : Boxed W Bs 41 (.slice a n c) := (hW.block Bs hB.lt).trans hB
  have HL := Lib.hid hL
  have HN := Lib.hid hn
  have HW := Lib.hid hW
  have HS := Lib.hid hW.size
  clear hB hL hn hW
  show CallsIn Fence.wide mm Tryz.prog 99 #[.func (.yield lp) #[] #[], .pointer (some ⟨Bs, 0, none⟩)] W _
  refine callsIn_of_wp Tryz.func99 rfl trivial ?_ rfl
  simp only [Tryz.ntmps99, List.size_toArray, List.length_cons, List.length_nil, Nat.reduceAdd, Nat.reduceSub, Array.replicate_succ, Array.replicate_zero, List.push_toArray, List.append_toArray, List.nil_append, List.cons_append]
  have cb := hb.cell
  gi_wp2_with fail
  clear cb hb
  gi_loopw [7] (fun i wr => ∃ k : Nat, k ≤ n ∧ i = .int .i64 (k : Int) ∧ Hid (Below w.heap.size w wr) ∧ W.heap.size ≤ wr.heap.size ∧ J (L.take k) wr)
    (fun i _ => n - (intOf i).toNat)
  case atStart =>
    exact ⟨0, by omega, rfl, HW, Nat.le_refl _, h0⟩
  case round =>
    obtain ⟨k, hk, rfl, HBR, hsz, hJs⟩ := hrel
    by_cases hlt : k < n
    · have d1 : (k : Int) < (n : Int) := by omega
      obtain ⟨y, hy⟩ : ∃ y, L[k]? = some y := ⟨_, List.getElem?_eq_getElem (by rw [HN.out]; exact hlt)⟩
      obtain ⟨b1, o1, ea, p0, p1, p2⟩ := (HL.out.below (B := 0) HBR.out) k y hy
      have HTK := Lib.hid (show L.take (k + 1) = L.take k ++ [y] by rw [List.take_add_one, hy]; rfl)
      have HKL := Lib.hid (show (L.take k).length < n by rw [List.length_take, HN.out]; omega)
      clear hy
      subst ea
      obtain ⟨w2, hw2⟩ : ∃ w2, w2 = wr.alloc (.cells #[.int .i64 y.t, .slice y.ka y.K.length y.kc, .slice y.r.ra y.r.R.length y.r.rc] 84) := ⟨_, rfl⟩
      have hJ2 : J (L.take k) w2 := by rw [hw2]; exact hJ _ wr _ none hJs (World.grownBy_alloc wr _ none) (fun r e => by cases e)
      have HB2 := Lib.hid (show Below w.heap.size w w2 by rw [hw2]; exact step_below HBR.out (bl1 wr _))
      have HS2 := Lib.hid (show W.heap.size ≤ w2.heap.size by rw [hw2, World.size_alloc]; omega)
      obtain ⟨fn, tmps, assign, body, hy, hR⟩ := hY (L.take k) y w2 hJ2 HKL.out
      rw [hw2] at hy
      dsimp only [encW, wcl, RV.v] at hy
      have hww := hw2
      clear hw2
      gi_wp2
      rw [← hww]
      refine hR.mono ?_
      rintro e W3 (⟨rfl, hJ3, hk3⟩ | ⟨rfl, hJx3⟩)
      · have HB3 := Lib.hid (HB2.out.trans hk3)
        have HS3 := Lib.hid (show W.heap.size ≤ W3.heap.size from Nat.le_trans HS2.out hk3.size)
        clear hk3
        gi_wp2
        go_roundw
        case rel => exact ⟨k + 1, by omega, by go_num, HB3, HS3.out, by rw [HTK.out]; exact hJ3⟩
        case measure => simp [intOf]; omega
      · gi_wp2
        refine bodyPost_ret (results_none rfl _ _ _) rfl ?_
        exact ⟨⟨_, rfl⟩, .inr ⟨L.take k ++ [y], trivial, hJx3⟩⟩
    · have d1 : ¬ (k : Int) < (n : Int) := by omega
      have HTK := Lib.hid (show L.take k = L from List.take_of_length_le (by rw [HN.out]; omega))
      gi_wp2
      go_end0
      have h9 := hJs
      rw [HTK.out] at h9
      exact ⟨⟨_, rfl⟩, .inl h9⟩

theorem info84 : (Tryz.prog.info? 84).map (fun i => (i.zero, i.size, i.bytes)) = some (some (.agg #[.int .i64 0, .slice none 0 0, .slice none 0 0]), 3, 56) := by kernel_rfl
theorem boxc_own {X Y : World} {B : Nat} {cs : Array Value} {t : TypeId} {row : Option Nat} (h : BoxC X B cs t) (hg : X.grownBy Y row) (hr : ∀ r, row = some r → ∃ o : Obj, X.heap[r]? = some o ∧ o.isCells = false) : BoxC Y B cs t :=
  (hg.block B h.lt (fun e => by
    obtain ⟨o, ho, hc⟩ := hr B e.symm
    rw [show X.heap[B]? = _ from h] at ho
    cases ho; cases hc)).trans h
/-- Writes put behind nothing. -/
def AppW (L : List WtV) (base : Nat) (w : World) (e : Ending) (w' : World) : Prop := ∃ v, e = .returned v ∧ w'.ownsRow base 84 3 v L.length (cellsOf wcl L) ∧ Below base w w'
set_option maxRecDepth 100000 in
set_option maxHeartbeats 4000000 in
/-- slices.AppendSeq (129), of writes. -/
theorem wapp_law (w : World) (Bs : Nat) (a : Option Addr) (n c : Nat) (L : List WtV) (hBs : Boxed w Bs 41 (.slice a n c)) (hn : L.length = n) (hn2 : n ≤ 1000000) (hL : WtC w a L) :
    Calls Tryz.prog 129 #[.slice none 0 0, .func (.func 99) #[] #[.pointer (some ⟨Bs, 0, none⟩)]] w (AppW L w.heap.size w) := by
  have HN := Lib.hid hn
  have HN2 := Lib.hid hn2
  have HLC := Lib.hid hL
  clear hL
  obtain ⟨i0, hi, hz0, hz1, hz2⟩ := info_parts info84
  refine (callsIn_wide (n := 6)).1 ?_
  refine callsIn_of_wp_marks Tryz.func129 rfl trivial ?_ rfl
  simp only [Tryz.ntmps129, List.size_toArray, List.length_cons, List.length_nil, Nat.reduceAdd, Nat.reduceSub, Array.replicate_succ, Array.replicate_zero, List.push_toArray, List.append_toArray, List.nil_append, List.cons_append]
  gi_wp2_with fail
  have hbw : Below w.heap.size w (w.alloc (.cells #[.slice none 0 0] 41)) := bl1 _ _
  have bL := Boxed.new w 41 (.slice none 0 0)
  have hsz : (w.alloc (.cells #[.slice none 0 0] 41)).heap.size = w.heap.size + 1 := by simp
  have bM : Boxed (w.alloc (.cells #[.slice none 0 0] 41)) Bs 41 (.slice a n c) := (hbw.block Bs hBs.lt).trans hBs
  have bO : WtC (w.alloc (.cells #[.slice none 0 0] 41)) a L := HLC.out.below (B := 0) hbw
  obtain ⟨W0, hW0⟩ : ∃ W0, w.alloc (.cells #[.slice none 0 0] 41) = W0 := ⟨_, rfl⟩
  rw [hW0] at bL hbw hsz bM bO ⊢
  clear hW0
  have HC := wvals_stops 5 (by omega) Bs a n c L w hBs hn hn2 HLC.out
  clear bM bO hBs hn hn2
  refine wpIn_rangeFunc_ownH rfl (by omega) (gf := 99) (lb := #[.pointer (some ⟨Bs, 0, none⟩)]) rfl trivial (enters_of Tryz.func99 (by kernel_rfl) rfl)
    HC belowK_t (belowK_b (by omega)) hbw (fun _ => rfl)
    (fun pre W => (∃ v, Boxed W w.heap.size 41 v ∧ W.ownsRow w.heap.size 84 3 v pre.length (cellsOf wcl pre)) ∧ Below w.heap.size w W)
    (fun c pre W => False)
    (OwnFrom.and (Own.from (fun s X Y row hs hg hr => by obtain ⟨v, h1, h2⟩ := hs; exact ⟨v, boxed_own _ 41 (fun (_ : Unit) => v) () X Y row h1 hg hr, own_own22 h2 hg hr⟩) _) (ownFrom_below (Nat.le_refl _) (by omega)))
    (fun c s X Y row hs hg hr => hs)
    ⟨⟨_, bL, World.ownsRow_nil _ _ _ _⟩, hbw⟩
    (fun x a' W => ∃ B, a' = { tmps := #[.slice none 0 0, .func (.func 99) #[] #[.pointer (some ⟨Bs, 0, none⟩)], .pointer (some ⟨w.heap.size, 0, none⟩), undef, .slice none 0 0, .pointer (some ⟨B, 0, none⟩), .func (.func 99) #[] #[.pointer (some ⟨Bs, 0, none⟩)], .agg (wcl x).toArray, undef, undef, undef, undef, undef], defers := [] } ∧ BoxC W B (wcl x).toArray 84 ∧ w.heap.size < B)
    (fun x a' => Own.from (fun s X Y row hs hg hr => by obtain ⟨B, h1, h2, h3⟩ := hs; exact ⟨B, h1, boxc_own h2 hg hr, h3⟩) _)
    ?assign ?body ?done ?stop
  case assign =>
    rintro lp pre x W K hI hK
    dsimp only [encW]
    obtain ⟨⟨v, hI1, hI2⟩, hI3⟩ := hI
    have hsW := hI1.lt
    unfold wcl RV.v
    gi_wp2
    exact hK _ _ ((KeepsOthers.alloc W _).from _) ((Below.refl w.heap.size W).alloc (by omega) _) ⟨⟨v, hI1.alloc _, hI2.alloc _⟩, hI3.alloc (by omega) _⟩ ⟨W.heap.size, rfl, BoxC.new W _ _, hsW⟩
  case body =>
    rintro lp pre x a' W hl ⟨r0, hr0⟩ ⟨⟨v, bL1, own1⟩, hB1⟩ ⟨B, rfl, hbx, hBB⟩ hlt
    have cL := bL1.cell
    have fL := bL1.frozen
    have x0 := hbx.cell 0
    have x1 := hbx.cell 1
    have x2 := hbx.cell 2
    unfold wcl RV.v at x0 x1 x2
    simp only [List.getElem?_toArray, List.getElem?_cons_zero, List.getElem?_cons_succ] at x0 x1 x2
    have hw2 : w.heap.size + 1 ≤ W.heap.size := by have := (Array.getElem?_eq_some_iff.1 hr0).1; omega
    clear hr0
    have HPL := Lib.hid (show pre.length < 1000000 by have := HN2.out; omega)
    clear hlt
    gi_wp2_with (gi_at_builtin; go_loud (refine wpListIn_append_own _ rfl _ _ 41 rfl w.heap.size 84 i0 (.agg #[.int .i64 0, .slice none 0 0, .slice none 0 0]) 3 56 Tryz.underlying41 hi hz0 hz1 hz2 rfl (by decide) _ _ _ rfl (own1.alloc _) ⟨W.heap.size, 0, none⟩ 1 1 (wcl x) rfl rfl (cells_new W _ _ _ rfl) (wcl_one x) (by have := HPL.out; unfold maxLen; omega) (by have := HPL.out; omega) (by simp; omega) ?_))
    intro v' W1 hown' hgrow _
    have hne : some w.heap.size ≠ v.ownBlock := fun e => by
      obtain ⟨_, _, cur, hb⟩ := own_blk own1 e.symm
      exact box_ne hb (show BoxC W w.heap.size #[v] 41 from bL1) (by decide) rfl
    have bL2 : Boxed W1 w.heap.size 41 v := (bL1.alloc _).kept hgrow hne
    have ko := (KeepsOthers.alloc W (.cells (wcl x).toArray 84)).trans (keeps_row22 (own1.alloc _) hgrow)
    have hBW : Below w.heap.size W W1 := ((Below.refl w.heap.size W).alloc (by omega) _).grown hgrow (by simp; omega) (fun j hj => (own1.lt j hj).1)
    have hB2 : Below w.heap.size w W1 := hB1.trans hBW
    have cL2 := bL2.cell
    have fL2 := bL2.frozen
    have hl2 := bL2.lt
    have hown2 : W1.ownsRow w.heap.size 84 3 v' (pre ++ [x]).length (cellsOf wcl (pre ++ [x])) := by
      have e : (pre ++ [x]).length = pre.length + 1 := by simp
      rw [e, cellsOf_append]
      exact hown'
    clear cL fL bL1 hgrow own1 hown' x0 x1 x2
    obtain ⟨g, gc, rfl⟩ := own_form22 hown2
    gi_wp2_with fail
    refine ⟨(ko.trans (KeepsOthers.setCell _ _ _)).from _, hBW.setCell (p := ⟨w.heap.size, 0, none⟩) (Nat.le_refl _) _, ⟨_, box_set _ _ _ _ _ bL2, ?_⟩, hB2.setCell (p := ⟨w.heap.size, 0, none⟩) (Nat.le_refl _) _⟩
    have hfin := fun u => ownsRow_setCell_other (a := ⟨w.heap.size, 0, none⟩) hown2 (fun e => by
      obtain ⟨_, _, cur, hb⟩ := own_blk hown2 e
      exact box_ne hb (show BoxC W1 w.heap.size #[v] 41 from bL2) (by decide) rfl) u
    have hlen : (pre ++ [x]).length = pre.length + 1 := by simp
    rw [hlen] at hfin ⊢
    exact hfin _
  case done =>
    rintro Dd zs W hD hzs ⟨⟨v, bL1, own1⟩, hB1⟩ hK
    have cL := bL1.cell
    subst hzs
    gi_wp2
    refine ⟨by simp, .inl ⟨_, _, rfl, run_takeDeferred hK, ?_⟩⟩
    refine ⟨v, ?_, v, rfl, own_own22 own1 (grownBy_putObj' W Dd (.deferred none)) (fun r e => by cases e; exact ⟨_, hK, rfl⟩), hB1.trans (belowK_b (w := w) (Nat.le_refl _) W Dd _ _ (by omega) hK rfl rfl)⟩
    simp [results, Tryz.f129, go_sem]
  case stop =>
    rintro Dd c pre W hD _ hf hK
    exact hf.elim
end Go.Proofs.YthmofoldmdafoaaGreat
namespace Go.Proofs.YthmofoldmdafoaaGreat
open Go.ChangeShapes Go.WideShapes Go.ChangeAt Go.RowKit Go.Maps
set_option linter.unusedVariables false
set_option linter.unusedSimpArgs false

set_option maxRecDepth 100000 in
set_option maxHeartbeats 4000000 in
/-- slices.Collect (97), of writes. -/
theorem wcollect_law (w : World) (Bs : Nat) (a : Option Addr) (n c : Nat) (L : List WtV) (hBs : Boxed w Bs 41 (.slice a n c)) (hn : L.length = n) (hn2 : n ≤ 1000000) (hL : WtC w a L) :
    Calls Tryz.prog 97 #[.func (.func 99) #[] #[.pointer (some ⟨Bs, 0, none⟩)]] w (AppW L w.heap.size w) := by
  have HA := Lib.hid (wapp_law w Bs a n c L hBs hn hn2 hL)
  clear hBs hn hn2 hL
  go_enter Tryz.func97, Tryz.ntmps97
  go_wp2_with (go_at_call 129; refine HA.out.mono ?_; rintro e w' ⟨v, rfl, h2, h3⟩; replace h2 := Lib.hid h2; replace h3 := Lib.hid h3)
  go_ret
  exact ⟨v, rfl, h2.out, h3.out⟩
set_option maxRecDepth 100000 in
set_option maxHeartbeats 4000000 in
/-- slices.SortedFunc (67), of writes. -/
theorem wsorted_law (w : World) (Bs : Nat) (a : Option Addr) (n c : Nat) (L : List WtV) (hBs : Boxed w Bs 41 (.slice a n c)) (hn : L.length = n) (hn2 : n ≤ 1000000) (hL : WtC w a L) (hok : ∀ y ∈ L, (Byt y.K ∧ y.t ≤ 1000000) ∧ Ls .u8 w y.ka y.kc y.K) :
    Calls Tryz.prog 67 #[.func (.func 99) #[] #[.pointer (some ⟨Bs, 0, none⟩)], .func (.func 69) #[] #[]] w fun r w' => ∃ (a : Option Addr) (c : Nat) (E : List WtV), r = .returned (.slice a n c) ∧ E.Perm L ∧ (E.Pairwise fun x y => ltW y x = false) ∧ w'.ownsRow w.heap.size 84 3 (.slice a n c) n (cellsOf wcl E) ∧ Below w.heap.size w w' := by
  have HA := Lib.hid (wcollect_law w Bs a n c L hBs hn hn2 hL)
  have HOK := Lib.hid hok
  have HN := Lib.hid hn
  have HN2 := Lib.hid hn2
  clear hBs hn hn2 hL hok
  go_enter Tryz.func67, Tryz.ntmps67
  go_wp2_with fail
  refine HA.out.mono ?_; rintro e w1 ⟨v, rfl, h2, h3⟩
  rw [HN.out] at h2
  obtain ⟨a1, c1, rfl⟩ := own_form22 h2
  have HO := Lib.hid h2
  have HB := Lib.hid h3
  have HS := Lib.hid (wsort_law w1 w.heap.size a1 n c1 L HN.out (by have := HN2.out; omega) h2 (fun y hy => ⟨(HOK.out y hy).1, fun W' o => by
    have hb : Below w.heap.size w W' := Off.below h3 o h3.size (fun k hk => (own_blk h2 hk).1)
    exact (HOK.out y hy).2.below hb⟩))
  clear h2 h3
  go_wp2_with fail
  refine HS.out.mono ?_; rintro e w2 ⟨rfl, E, hp, hs, ho, hoff⟩
  have HE := Lib.hid (And.intro hp (And.intro hs ho))
  have HB2 := Lib.hid (Off.below HB.out hoff HB.out.size (fun k hk => (own_blk HO.out hk).1))
  clear hp hs ho hoff
  go_wp2_with fail
  go_ret
  exact ⟨a1, c1, E, rfl, HE.out.1, HE.out.2.1, HE.out.2.2, HB2.out⟩
/-- How Writes ends. -/
def WrtsR (S : Nat → Prop) (w : World) (m : Md) (x : TxnV) (r : Ending) (w' : World) : Prop :=
  if mayT m.j x then ∃ (a : Option Addr) (c : Nat) (E : List WtV), r = .returned (.tuple #[.slice a E.length c, .int .i64 0]) ∧ Below w.heap.size w w' ∧ (E.map WtV.P).Perm (wrtP m.j m.P x) ∧ (E.Pairwise fun x y => ltW y x = false) ∧ (∀ y ∈ E, y.t < m.tabs.length ∧ keyOk y.K ∧ (y.r.R ≠ [] → rOk y.r.P)) ∧ Stay S w' fun W => WrR W a (E.map WtV.W)
  else r = .returned (.tuple #[.slice none 0 0, .int .i64 2]) ∧ Below w.heap.size w w'
set_option maxRecDepth 100000 in
set_option maxHeartbeats 4000000 in
/-- Writes (25). -/
theorem writes_law {S : Nat → Prop} {m : Md} {w : World} (h : MdR S w m) (hS : ∀ k, S k → k < w.heap.size) (x : TxnV) (hx : Stay S w fun W => TxnAt W x) (hon : x.on ≤ 1000000) (hrn : ∀ o ∈ x.ops, o.rn ≤ 1000000) (hf : ∀ z ∈ m.tabs, z.2.length ≤ 300000) :
    Calls Tryz.prog 25 #[.pointer (some ⟨m.p, 0, none⟩), .agg #[.slice x.oa x.on x.oc, .bool x.sn, .bool x.ab]] w (WrtsR S w m x) := by
  have HH := Lib.hid (And.intro h (And.intro hS hf))
  have hb : Below w.heap.size w (w.alloc (.cells #[.slice x.oa x.on x.oc, .bool x.sn, .bool x.ab] 38)) := bl1 _ _
  have HB := Lib.hid hb
  have HTR := Lib.hid (trial_law esort (h.below hb) (fun k hk => Nat.lt_of_lt_of_le (hS k hk) hb.size) x (hx.below hb) hon hrn hf)
  have HFW := Lib.hid h.few
  clear h hS hx hon hrn hf hb
  go_enter Tryz.func25, Tryz.ntmps25
  go_wp2_with fail
  refine HTR.out.mono ?_; intro r w2 hr
  unfold TrR at hr
  cases hm : mayT m.j x with
  | false =>
    rw [hm] at hr
    obtain ⟨rfl, hb2⟩ := hr
    have HB2 := Lib.hid (HB.out.trans (hb2.mono HB.out.size))
    have HR := Lib.hid (fun r w' (hh : r = .returned (.tuple #[.slice none 0 0, .int .i64 2]) ∧ Below w.heap.size w w') => (by unfold WrtsR; rw [hm]; exact hh : WrtsR S w m x r w'))
    clear hm hb2
    go_wp2_with fail
    go_ret2
    exact HR.out _ _ ⟨rfl, HB2.out⟩
  | true =>
    rw [hm] at hr
    obtain ⟨S', base, px, wv, rv, ws, rs, rfl, hb2, hbs, ho, hss, _, hrs, hws⟩ := hr
    have HB2 := Lib.hid (HB.out.trans (hb2.mono HB.out.size))
    obtain ⟨a1, c1, e1⟩ := own_form22 ho.own
    have hown := ho.own
    rw [e1] at hown
    have c2 := ho.c2
    rw [e1] at c2
    have HWS := Lib.hid hws
    have HOK := Lib.hid ho.wok
    have HST := Lib.hid (fun y hy => (ho.wst y hy).less hss)
    have hb3 : Below w2.heap.size w2 (w2.alloc (.cells #[.slice a1 ws.length c1] 41)) := bl1 _ _
    obtain ⟨w3, hw3⟩ : ∃ w3, w3 = w2.alloc (.cells #[.slice a1 ws.length c1] 41) := ⟨_, rfl⟩
    rw [← hw3] at hb3
    have HB3 := Lib.hid hb3
    have HSF := Lib.hid (wsorted_law w3 w2.heap.size a1 ws.length c1 ws (by rw [hw3]; exact Boxed.new w2 41 (.slice a1 ws.length c1)) rfl (by have := ho.few; omega) ((own_wtc hown rfl).below (B := 0) hb3) (fun y hy => ⟨⟨(ho.wok y hy).2.1.1, by have := (ho.wok y hy).1; have := HFW.out; omega⟩, ((ho.wst y hy).below hb3).now.1⟩))
    have HR := Lib.hid (fun r w' (hh : ∃ (a : Option Addr) (c : Nat) (E : List WtV), r = .returned (.tuple #[.slice a E.length c, .int .i64 0]) ∧ Below w.heap.size w w' ∧ (E.map WtV.P).Perm (wrtP m.j m.P x) ∧ (E.Pairwise fun x y => ltW y x = false) ∧ (∀ y ∈ E, y.t < m.tabs.length ∧ keyOk y.K ∧ (y.r.R ≠ [] → rOk y.r.P)) ∧ Stay S w' fun W => WrR W a (E.map WtV.W)) => (by unfold WrtsR; rw [hm]; exact hh : WrtsR S w m x r w'))
    clear hm hb2 hbs ho hss hrs hws e1 hown hb3
    go_wp2_with fail
    refine (wvals_law w2 (.slice a1 ws.length c1) a1 ws.length c1 rfl).mono ?_; rintro e w' ⟨rfl, rfl⟩
    rw [← hw3]
    clear hw3
    go_wp2_with fail
    refine HSF.out.mono ?_; rintro e w4 ⟨a2, c2, E, rfl, hp, hs, ho, hbf⟩
    have HE := Lib.hid (And.intro hp (And.intro hs ho))
    have HB4 := Lib.hid hbf
    clear hp hs ho hbf
    go_wp2_with fail
    go_ret2
    have hl : E.length = ws.length := HE.out.1.length_eq
    have hB24 := HB3.out.trans (HB4.out.mono HB3.out.size)
    refine HR.out _ _ ⟨a2, c2, E, by rw [hl]; rfl, HB2.out.trans (hB24.mono HB2.out.size), ?_, HE.out.2.1, fun y hy => HOK.out y (HE.out.1.mem_iff.1 hy), fun W' o => ?_⟩
    · have h1 := HE.out.1.map WtV.P
      rw [HWS.out] at h1
      exact h1
    · have h2 := own_off22 HE.out.2.2 o (fun k hk => Nat.lt_of_lt_of_le (HH.out.2.1 k hk) (Nat.le_trans HB2.out.size HB3.out.size))
      exact own_wr h2 hl fun y hy => ((HST.out y (HE.out.1.mem_iff.1 hy)).below hB24) W' o
end Go.Proofs.YthmofoldmdafoaaGreat
