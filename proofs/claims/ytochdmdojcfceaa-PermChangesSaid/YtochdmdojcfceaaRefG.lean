/- Lists that are cut and put together in the reference: laws for one step each. -/
import Derived.Test.YtochdmdojcfceaaReadsS
namespace Go.Proofs.Ytochdmdojcfceaa
open Go.ChangeShapes Go.WideShapes Go.ChangeAt Go.RowKit Go.Shelf
open PM
set_option linter.unusedVariables false
set_option linter.unusedSimpArgs false

/-- A list of places, as a slice of it lies. -/
structure Ls (W : World) (a : Option Addr) (cap : Nat) (l : List Nat) : Prop where
  rd : Rd W a (ints l)
  nl : a = none → l = [] ∧ cap = 0
  le : l.length ≤ cap
theorem Ls.below {W W' : World} {a : Option Addr} {cap : Nat} {l : List Nat} (h : Ls W a cap l) (hb : Below W.heap.size W W') : Ls W' a cap l := ⟨h.rd.below hb, h.nl, h.le⟩
theorem Ls.drew {W : World} {a : Option Addr} {cap : Nat} {l : List Nat} (h : Ls W a cap l) : Ls W.drew a cap l := ⟨h.rd, h.nl, h.le⟩
theorem Ls.hi {W : World} {a : Option Addr} {cap : Nat} {l : List Nat} (h : Ls W a cap l) (n i : Nat) (hn : l.length = n) (hi : i ≤ n) :
    ∃ a' c', (∀ W', (Instr.slice 23 (.slice a n cap) none (some (.int .i64 (i : Int))) none).run Try.prog W' = .ok (.slice a' i c') W') ∧ Ls W a' c' (l.take i) := by
  subst hn
  have hle := h.le
  refine ⟨a, cap, fun W' => ?_, ⟨by have := rd_take h.rd i; unfold ints at this ⊢; rwa [List.map_take], fun e => by rw [(h.nl e).1]; exact ⟨by simp, (h.nl e).2⟩, by rw [List.length_take]; omega⟩⟩
  rw [run_slice_h (P := Try.prog) (w := W') 23 a l.length cap (by kernel_rfl) .i64 i (by omega) (by omega)]
  have hs : ((sizeOf (Try.prog.elem 23)).run Try.prog W') = .ok 1 W' := by kernel_rfl
  rw [hs]
  cases a <;> simp [sliced, Result.andThen, Addr.add]
theorem Ls.lo {W : World} {a : Option Addr} {cap : Nat} {l : List Nat} (h : Ls W a cap l) (n i : Nat) (hn : l.length = n) (hi : i ≤ n) :
    ∃ a' c', (∀ W', (Instr.slice 23 (.slice a n cap) (some (.int .i64 (i : Int))) none none).run Try.prog W' = .ok (.slice a' (n - i) c') W') ∧ Ls W a' c' (l.drop i) := by
  subst hn
  have hle := h.le
  refine ⟨if cap = i then a else a.map (·.add (i * 1)), cap - i, fun W' => ?_, ?_, ?_, by rw [List.length_drop]; omega⟩
  · rw [run_slice_l (P := Try.prog) (w := W') 23 a l.length cap (by kernel_rfl) .i64 i (by omega) (by omega)]
    rfl
  · by_cases hz : l.length = i
    · rw [List.drop_of_length_le (by omega)]; exact Rd.nil _ _
    · obtain ⟨b, off, e, _⟩ := h.rd 0 (by rw [ints_length]; omega)
      subst e
      have hd := h.rd.drop i
      unfold ints at hd ⊢
      rw [← List.map_drop] at hd
      rw [if_neg (by omega)]
      by_cases h0 : i = 0
      · subst h0; simpa [Addr.add] using hd
      · simpa [Addr.add, h0] using hd
  · intro e
    have ha : a = none := by
      by_cases hc : cap = i
      · rwa [if_pos hc] at e
      · rw [if_neg hc] at e; simpa using e
    obtain ⟨h1, h2⟩ := h.nl ha
    rw [h1, h2]; simp
theorem own_ls {w : World} {base n : Nat} {v : Value} {l : List Nat} (h : w.ownsRow base 3 1 v n (iv l)) (hn : l.length = n) : ∃ a cap, v = .slice a n cap ∧ Ls w a cap l ∧ (0 < n → ∃ g, a = some ⟨g, 0, none⟩) := by
  obtain ⟨a, cap, rfl, h2, h3, h4⟩ := own_rd h hn
  exact ⟨a, cap, rfl, ⟨h3, fun e => own_nb h a cap rfl e, by omega⟩, h4⟩

theorem step_append_rd {ops : Array Oper} {o : Oper} {a : Act} {w : World} {K : Act → World → Prop} {Q : Exit → Act → World → Prop} {E : Prop} (hgd : o.guard = none) (s x : Operand)
    (ho : o.op = .call { callee := .builtin .append, args := #[s, x], argTypes := #[23, 23] })
    (base : Nat) (w0 : World) (hB0 : Below base w0 w) (v : Value) (n : Nat) (xs : List Value) (hs : a.eval s = v) (hown : w.ownsRow base 3 1 v n xs)
    (ad : Option Addr) (c len : Nat) (l : List Nat) (hlen : l.length = len) (hx : a.eval x = .slice ad len c) (hR : Rd w ad (ints l)) (hnil : ad = none → l = [] ∧ c = 0)
    (hb : n + len ≤ 1048576) (hbase : base ≤ w.heap.size)
    (h : ∀ v' w', w'.ownsRow base 3 1 v' (n + len) (xs ++ iv l) → Below base w0 w' → w.grownBy w' v.ownBlock → K (a.put o.dst v') w') :
    if Region.wanted o (yielded ops a.tmps) = true then Oper.wp Try.prog o a w K Q else E := by
  have hw : Region.wanted o (yielded ops a.tmps) = true := by simp [Region.wanted, hgd]
  rw [if_pos hw]
  subst hlen
  obtain ⟨i0, hi, hz0, hz1, hz2⟩ := info_parts info3
  rcases ad with _ | ad
  · obtain ⟨rfl, rfl⟩ := hnil rfl
    have hr := run_append_owned_none (P := Try.prog) (w := w) base 23 o.type 3 i0 1 Try.underlying23 hi v n xs hown
    simp only [List.length_nil] at hx
    unfold Oper.wp execOp
    simp only [ho, resolve, invoke, builtin, Sem.run_bind, Sem.run_pure, Result.andThen_ok, List.map_toArray, List.map_cons, List.map_nil, hs, hx, hr]
    exact h v w (by simpa [iv] using hown) hB0 ⟨rfl, rfl, rfl, Nat.le_refl _, fun _ _ _ => rfl⟩
  · refine wp_append_own w s x 23 ho base 3 i0 (.int .i64 0) 1 8 Try.underlying23 hi hz0 hz1 hz2 rfl (by decide) v n xs hs hown ad l.length c (iv l) hx (by simp [iv]) ?_ ?_ (by unfold maxLen; omega) (by omega) hbase (fun v' w' h2 h3 _ => h v' w' h2 (hB0.grown h3 hbase (fun j hj => (hown.lt j hj).1)) h3)
    · intro j u hj
      have hjl : j < l.length := by have := (List.getElem?_eq_some_iff.1 hj).1; simpa [iv] using this
      obtain ⟨b, off, e, hc⟩ := hR j (by rw [ints_length]; exact hjl)
      cases e
      have hu : u = .int .i64 ((l.getD j 0 : Nat) : Int) := by
        simp [iv, hjl] at hj
        rw [← hj]; simp [List.getD, List.getElem?_eq_getElem hjl]
      rw [hu, ← ints_get l j hjl]
      rw [show ((⟨b, off, none⟩ : Addr).add j) = ⟨b, off + j, none⟩ by unfold Addr.add; split <;> simp_all]
      exact hc
    · intro u hu; simp only [iv, List.mem_map] at hu; obtain ⟨x, _, rfl⟩ := hu; rfl
theorem made_at (la lb m : List Nat) (hm : la ++ lb = m) (n nb : Nat) (hn : la.length = n) (hnb : lb.length = nb) (h : Wrd n m) (a b : Option Addr) (ca cb : Nat) (w : World) (hA : Ls w a ca la) (hB : Ls w b cb lb) :
    Calls Try.prog 32 #[.slice a n ca, .slice b nb cb] w fun e w' => e = .returned (.int .u64 ((enc (n :: m) : Nat) : Int)) ∧ Below w.heap.size w w' := by
  have e : nb = 15 - n := by have := congrArg List.length hm; have := h.len; simp at *; omega
  rw [e]
  exact made_law la lb m hm n hn h a b ca cb w hA.rd hB.rd hA.nl hB.nl

/-- What was read, as lists. -/
theorem ins_list {n k : Nat} {l : List Nat} (hl : l.length = 15) (hn : n < 15) (hk : k ≤ n) : ((l.take n).take k ++ [l.getD n 0] ++ (l.take n).drop k) ++ (l.drop n).drop 1 = mvd l n k := by
  unfold mvd put out
  have h1 : (l.take n).length = n := by rw [List.length_take]; omega
  rw [List.take_append_of_le_length (by omega), List.drop_append_of_le_length (by omega), List.drop_drop]
  simp
theorem rem_list {n k : Nat} {l : List Nat} (hl : l.length = 15) (hn : n ≤ 15) (hk : k < n) : ((l.take n).take k ++ (l.take n).drop (k + 1)) ++ ([l.getD k 0] ++ l.drop n) = mvd l k (n - 1) := by
  unfold mvd put out
  have h1 : (l.take k).length = k := by rw [List.length_take]; omega
  rw [List.take_append, List.drop_append, h1, List.take_of_length_le (by omega : (l.take k).length ≤ n - 1), List.drop_of_length_le (by omega : (l.take k).length ≤ n - 1), List.drop_drop, List.take_take, Nat.min_eq_left (by omega), List.drop_take]
  rw [show n - 1 - k = n - (k + 1) by omega, show k + 1 + (n - (k + 1)) = n by omega]
  simp
end Go.Proofs.Ytochdmdojcfceaa
