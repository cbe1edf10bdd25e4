/- Disks: what is kept at a crash: the row, and the map of it. -/
import Derived.Test.YtbjhcbiihekceaaDc5
namespace Go.Proofs.Ytbjhcbiihekceaa
open Go.ChangeShapes Go.WideShapes Go.ChangeAt Go.RowKit Go.Maps
set_option linter.unusedVariables false
set_option linter.unusedSimpArgs false
open Classical in
/-- How a number in the map reads: as itself. -/
noncomputable def RI (v : Value) : Option (DataW Value × List MemPlace) := if ∃ x : Int, v = .int .i64 x then some (.held v, []) else none
theorem RI_int (x : Int) : RI (.int .i64 x) = some (.held (.int .i64 x), []) := if_pos ⟨x, rfl⟩
theorem RI_inv {v : Value} {z : DataW Value × List MemPlace} (h : RI v = some z) : (∃ x : Int, v = .int .i64 x) ∧ z = (.held v, []) := by
  unfold RI at h
  split at h
  · rename_i hx
    exact ⟨hx, by cases h; rfl⟩
  · cases h
theorem zero3 (w : World) : (zeroValue 3).run Try.prog w = .ok (.int .i64 0) w := by kernel_rfl
/-- What is kept of that name. -/
def kFind (ks : List (ByteArray × Int)) (s : ByteArray) : Option Int := (ks.find? fun k => decide (k.1 = s)).map (·.2)
def loose (ks : List (ByteArray × Int)) (s : ByteArray) : Int := (kFind ks s).getD 0
theorem kFind_snoc (ks : List (ByteArray × Int)) (k : ByteArray × Int) (s : ByteArray) : kFind (ks ++ [k]) s = (kFind ks s).or (if k.1 = s then some k.2 else none) := by
  unfold kFind
  rw [List.find?_append]
  cases List.find? (fun k => decide (k.1 = s)) ks with
  | some x => rfl
  | none =>
    by_cases h : k.1 = s <;> simp [h]
theorem kFind_none {ks : List (ByteArray × Int)} {s : ByteArray} : kFind ks s = none ↔ ∀ k ∈ ks, k.1 ≠ s := by
  unfold kFind
  simp
theorem kFind_some {ks : List (ByteArray × Int)} {s : ByteArray} {x : Int} (h : kFind ks s = some x) : ∃ k ∈ ks, k.1 = s ∧ k.2 = x := by
  unfold kFind at h
  rw [Option.map_eq_some_iff] at h
  obtain ⟨k, h1, h2⟩ := h
  exact ⟨k, List.mem_of_find?_eq_some h1, by simpa using List.find?_some h1, h2⟩
def skey (s : ByteArray) : Lit := .string s.data.toList
theorem skey_inj {s t : ByteArray} (h : skey s = skey t) : s = t := by
  unfold skey at h
  injection h with h
  exact ByteArray.ext (Array.ext' h)
/-- The map of what is kept. -/
structure LooseOf (D : DataW Value) (ks : List (ByteArray × Int)) : Prop where
  has : ∀ s, Maps.has D (skey s) = (kFind ks s).isSome
  val : ∀ s z, D.atKey (skey s) z = match kFind ks s with | some x => .held (.int .i64 x) | none => z
theorem LooseOf.nil : LooseOf (.map []) [] := ⟨fun s => rfl, fun s z => rfl⟩
theorem skey_lit (s : ByteArray) (hs : s.size ≤ maxLen) : WideAt.IsKeyLit (skey s) := law9.key (key_of s hs)
theorem LooseOf.snoc {D : DataW Value} {ks : List (ByteArray × Int)} (h : LooseOf D ks) (hD : IsMap D) {k : ByteArray × Int} (hs : k.1.size ≤ maxLen) (hn : kFind ks k.1 = none) : LooseOf (D.put (skey k.1) (.held (.int .i64 k.2))) (ks ++ [k]) := by
  have hl := skey_lit k.1 hs
  refine ⟨fun s => ?_, fun s z => ?_⟩
  · by_cases e : s = k.1
    · subst e
      rw [has_put_same hD hl, kFind_snoc, hn]; simp
    · rw [has_put_other (fun h => e (skey_inj h)), h.has, kFind_snoc, if_neg (Ne.symm e)]; simp
  · by_cases e : s = k.1
    · subst e
      rw [atKey_put_same hD hl, kFind_snoc, hn]; simp
    · rw [atKey_put_other (fun h => e (skey_inj h)), h.val, kFind_snoc, if_neg (Ne.symm e)]; simp
/-- Each may be kept, and none twice. -/
structure KOk (ks : List (ByteArray × Int)) : Prop where
  each : ∀ k ∈ ks, mayB k.1 = true ∧ 0 ≤ k.2
  once : ks.Pairwise fun a b => a.1 ≠ b.1
theorem KOk.nil : KOk [] := ⟨by simp, List.Pairwise.nil⟩
theorem KOk.snoc {ks : List (ByteArray × Int)} {k : ByteArray × Int} : KOk (ks ++ [k]) ↔ KOk ks ∧ kFind ks k.1 = none ∧ mayB k.1 = true ∧ 0 ≤ k.2 := by
  rw [kFind_none]
  constructor
  · rintro ⟨h1, h2⟩
    rw [List.pairwise_append] at h2
    exact ⟨⟨fun x hx => h1 x (by simp [hx]), h2.1⟩, fun x hx => h2.2.2 x hx k (by simp), h1 k (by simp)⟩
  · rintro ⟨⟨h1, h2⟩, h3, h4⟩
    refine ⟨fun x hx => ?_, ?_⟩
    · rcases List.mem_append.1 hx with h | h
      · exact h1 x h
      · rw [List.mem_singleton] at h; subst h; exact h4
    · rw [List.pairwise_append]
      exact ⟨h2, by simp, fun x hx y hy => by rw [List.mem_singleton] at hy; subst hy; exact h3 x hx⟩
theorem KOk.sub {ks : List (ByteArray × Int)} (h : KOk ks) (n : Nat) : KOk (ks.take n) := ⟨fun k hk => h.each k (List.mem_of_mem_take hk), h.once.sublist (List.take_sublist _ _)⟩
theorem take_snoc {α : Type} {l : List α} {n : Nat} {x : α} (h : l[n]? = some x) : l.take (n + 1) = l.take n ++ [x] := by
  rw [List.take_add_one, h]; rfl
/-- The row of what is kept, in memory. -/
def Kps (W : World) (ad : Option Addr) (ks : List (ByteArray × Int)) : Prop := ∀ i k, ks[i]? = some k → ∃ b o, ad = some ⟨b, o, none⟩ ∧ W.cell? ⟨b, o + i * 2, none⟩ = some (.string k.1) ∧ W.cell? ⟨b, o + i * 2 + 1, none⟩ = some (.int .i64 k.2)
theorem Kps.below {W W' : World} {ad : Option Addr} {ks : List (ByteArray × Int)} (h : Kps W ad ks) (b : Below W.heap.size W W') : Kps W' ad ks := fun i k hk => by
  obtain ⟨bb, o, rfl, h1, h2⟩ := h i k hk
  have hlt : bb < W.heap.size := by
    unfold World.cell? at h1
    by_cases hh : bb < W.heap.size
    · exact hh
    · simp [Array.getElem?_eq_none (Nat.le_of_not_lt hh)] at h1
  exact ⟨bb, o, rfl, (b.cell hlt).trans h1, (b.cell hlt).trans h2⟩
/-- m[name], of what is kept. -/
theorem loose_ok {W : World} {bl n : Nat} {D : DataW Value} {ks : List (ByteArray × Int)} (hm : W.ownsMap Try.prog 9 RI bl n D) (h : LooseOf D ks) (s : ByteArray) (hs : s.size ≤ maxLen) : (Instr.lookup 121 (.map (some bl)) (.string s) true).run Try.prog W = .ok (.tuple #[.int .i64 (loose ks s), .bool (kFind ks s).isSome]) W := by
  obtain ⟨v, ps, hr, hv⟩ := hm.look_ok law9 Try.underlying121 (zero3 W) (RI_int 0) (key_of s hs)
  have h1 := h.has s
  have h2 := h.val s (.held (.int .i64 0))
  unfold skey at h1 h2
  rw [h1] at hr
  rw [h2] at hv
  obtain ⟨_, e⟩ := RI_inv hv
  have : v = .int .i64 (loose ks s) := by
    have := (Prod.mk.inj e).1
    unfold loose
    cases hk : kFind ks s with
    | none =>
      rw [hk] at this
      have h5 : Value.int .i64 0 = v := by simpa using this
      rw [← h5]; rfl
    | some x =>
      rw [hk] at this
      have h5 : Value.int .i64 x = v := by simpa using this
      rw [← h5]; rfl
  subst this
  exact hr
theorem loose_at {W : World} {bl n : Nat} {D : DataW Value} {ks : List (ByteArray × Int)} (hm : W.ownsMap Try.prog 9 RI bl n D) (h : LooseOf D ks) (s : ByteArray) (hs : s.size ≤ maxLen) : (Instr.lookup 121 (.map (some bl)) (.string s) false).run Try.prog W = .ok (.int .i64 (loose ks s)) W := by
  obtain ⟨v, ps, hr, hv⟩ := hm.lookup law9 Try.underlying121 (zero3 W) (RI_int 0) (key_of s hs)
  have h2 := h.val s (.held (.int .i64 0))
  unfold skey at h2
  rw [h2] at hv
  obtain ⟨_, e⟩ := RI_inv hv
  have : v = .int .i64 (loose ks s) := by
    have := (Prod.mk.inj e).1
    unfold loose
    cases hk : kFind ks s with
    | none =>
      rw [hk] at this
      have h5 : Value.int .i64 0 = v := by simpa using this
      rw [← h5]; rfl
    | some x =>
      rw [hk] at this
      have h5 : Value.int .i64 x = v := by simpa using this
      rw [← h5]; rfl
  subst this
  exact hr
/-- A step of a range over the map of what is kept. -/
theorem next_kept {w : World} {ops : Array Oper} {rest : List Oper} {o : Oper} {a : Act} {Q : Exit → Act → World → Prop} (hg : o.guard = none) (it : Operand) (hop : o.op = Op.next it false) (b r n : Nat) (D : DataW Value) (ks : List (ByteArray × Int)) (hD : LooseOf D ks) (left : Lit → Bool) (cnt : Nat)
    (hit : a.eval it = .pointer (some ⟨r, 0, none⟩)) (h : w.ranges Try.prog 9 RI b r n D left cnt)
    (hDone : cnt = 0 → (∀ kl, left kl = false) → wpList Try.prog ops Q rest (a.put o.dst (.tuple #[.bool false])) w)
    (hMore : ∀ (s : ByteArray) (x : Int) (w' : World) (cnt' : Nat), s.size ≤ maxLen → kFind ks s = some x → left (skey s) = true → w'.ranges Try.prog 9 RI b r n D (fun z => left z && !z.sameKey (skey s)) cnt' → cnt' < cnt → w.grownBy w' (some r) → w'.heap.size = w.heap.size →
      (Instr.entry (.pointer (some ⟨r, 0, none⟩))).run Try.prog w' = .ok (.tuple #[.string s, .int .i64 x]) w' → wpList Try.prog ops Q rest (a.put o.dst (.tuple #[.bool true, .string s, .int .i64 x])) w') :
    wpList Try.prog ops Q (o :: rest) a w :=
  wpList_next_ranges w hg it hop 9 law9 RI Value.string (fun v : Value => v) (fun key kl hk => by obtain ⟨s, rfl, _⟩ := key_inv hk; exact ⟨s, rfl⟩) (fun v y _ => ⟨v, rfl⟩) b r n D left cnt hit h hDone
    (fun s c kl y w' cnt' hkey hlk hv hat hrg hlt hgr hsz hen => by
      obtain ⟨s', es, rfl, hs⟩ := key_inv hkey
      cases es
      have h2 := hD.val s
      obtain ⟨⟨x, rfl⟩, rfl⟩ := RI_inv hv
      have hx : kFind ks s = some x := by
        cases hk : kFind ks s with
        | none =>
          have e1 := hat .nil
          have e2 := hat (.map [])
          have e3 := h2 .nil
          have e4 := h2 (.map [])
          rw [hk] at e3 e4
          unfold skey at e3 e4
          rw [e3] at e1
          rw [e4] at e2
          rw [← e2] at e1
          cases e1
        | some u =>
          have e1 := hat .nil
          have e3 := h2 .nil
          rw [hk] at e3
          unfold skey at e3
          rw [e3] at e1
          simp at e1
          rw [e1]
      exact hMore s x w' cnt' hs hx hlk hrg hlt hgr hsz hen)
end Go.Proofs.Ytbjhcbiihekceaa
