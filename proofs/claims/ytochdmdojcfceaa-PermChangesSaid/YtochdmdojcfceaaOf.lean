/- The perm of places that are handed in, and the first one, by contracts. -/
import Derived.Test.YtochdmdojcfceaaFree
namespace Go.Proofs.Ytochdmdojcfceaa
open Go.ChangeShapes Go.WideShapes Go.ChangeAt Go.RowKit Go.Shelf
open PM
set_option linter.unusedVariables false
set_option linter.unusedSimpArgs false

/-- The places below k that are not in the list, rising. -/
def rest (m : List Nat) (k : Nat) : List Nat := (List.range k).filter fun j => !m.contains j
theorem rest_succ (m : List Nat) (k : Nat) : rest m (k + 1) = rest m k ++ if k ∈ m then [] else [k] := by
  unfold rest
  rw [List.range_succ, List.filter_append]
  by_cases h : k ∈ m <;> simp [h]
theorem rest_cons (m : List Nat) (x k : Nat) (hx : x < k) (hm : x ∉ m) : (rest (x :: m) k).length + 1 = (rest m k).length := by
  have hnd : (rest m k).Nodup := List.Pairwise.filter _ List.nodup_range
  have hmem : x ∈ rest m k := by unfold rest; simp [hx, hm]
  have e : rest (x :: m) k = (rest m k).erase x := by
    rw [hnd.erase_eq_filter]
    unfold rest
    rw [List.filter_filter]
    refine List.filter_congr fun j _ => ?_
    by_cases h : j = x <;> simp [h]
  rw [e, List.length_erase_of_mem hmem]
  have := List.length_pos_of_mem hmem
  omega
theorem rest_nil (k : Nat) : rest [] k = List.range k := by simp [rest]
/-- Each from 0 to 14, none twice, said from the end. -/
def Good (m : List Nat) : Prop := ∀ i < m.length, m.getD i 0 < 15 ∧ m.getD i 0 ∉ m.take i
theorem good_cons_len : ∀ m : List Nat, (∀ x ∈ m, x < 15) → m.Nodup → (rest m 15).length + m.length = 15
  | [], _, _ => by simp [rest_nil]
  | x :: r, h, hn => by
    rw [List.nodup_cons] at hn
    have := good_cons_len r (fun y hy => h y (List.mem_cons_of_mem _ hy)) hn.2
    have h2 := rest_cons r x 15 (h x (List.mem_cons_self ..)) hn.1
    simp only [List.length_cons]; omega
theorem Good.lt {m : List Nat} (h : Good m) : ∀ x ∈ m, x < 15 := fun x hx => by
  obtain ⟨i, hi, rfl⟩ := List.getElem_of_mem hx
  have := (h i hi).1
  simpa [List.getD, List.getElem?_eq_getElem hi] using this
theorem Good.nodup {m : List Nat} (h : Good m) : m.Nodup := by
  rw [List.Nodup, List.pairwise_iff_getElem]
  intro i j hi hj hij e
  have := (h j hj).2
  apply this
  rw [show m.getD j 0 = m[j] from by simp [List.getD, List.getElem?_eq_getElem hj], ← e]
  rw [List.mem_iff_getElem]
  exact ⟨i, by simp; omega, by simp⟩
theorem Good.length {m : List Nat} (h : Good m) : (rest m 15).length + m.length = 15 := good_cons_len m h.lt h.nodup
theorem rest_le (m : List Nat) (k : Nat) (h : k ≤ 15) : (rest m k).length ≤ (rest m 15).length := by
  have e : List.range 15 = List.range k ++ (List.range (15 - k)).map (k + ·) := by
    rw [← List.range_add]; congr 1; omega
  unfold rest
  rw [e, List.filter_append, List.length_append]
  omega

def okI (L : List Int) : Bool := decide (L.length ≤ 15) && (List.range L.length).all fun i => decide (0 ≤ L.getD i 0) && decide (L.getD i 0 < 15) && !((L.map Int.toNat).take i).contains (L.getD i 0).toNat
theorem okI_iff (L : List Int) : okI L = true ↔ L.length ≤ 15 ∧ ∀ i < L.length, 0 ≤ L.getD i 0 ∧ L.getD i 0 < 15 ∧ (L.getD i 0).toNat ∉ (L.map Int.toNat).take i := by
  unfold okI
  rw [Bool.and_eq_true, decide_eq_true_eq, List.all_eq_true]
  constructor
  · rintro ⟨h1, h⟩
    refine ⟨h1, fun i hi => ?_⟩
    have := h i (List.mem_range.2 hi)
    simpa [and_assoc] using this
  · rintro ⟨h1, h⟩
    refine ⟨h1, fun i hi => ?_⟩
    have := h i (List.mem_range.1 hi)
    simpa [and_assoc] using this
def nats (L : List Int) : List Nat := L.map Int.toNat
theorem nats_length (L : List Int) : (nats L).length = L.length := by simp [nats]
theorem nats_get (L : List Int) (i : Nat) (h : i < L.length) : (nats L).getD i 0 = (L.getD i 0).toNat := by simp [nats, List.getD, h]
theorem okI_good {L : List Int} (h : okI L = true) : Good (nats L) := fun i hi => by
  rw [nats_length] at hi
  have := ((okI_iff L).1 h).2 i hi
  rw [nats_get L i hi]
  exact ⟨by omega, this.2.2⟩
def ofV (L : List Int) : Nat × Int := if okI L = true then (enc (L.length :: (nats L ++ rest (nats L) 15)), 0) else (0, 2)
theorem of_wrd {L : List Int} (h : okI L = true) : Wrd L.length (nats L ++ rest (nats L) 15) :=
  ⟨by have := ((okI_iff L).1 h).1; omega, by rw [List.length_append]; have := (okI_good h).length; omega,
    Dig.append (fun x hx => by have := (okI_good h).lt x hx; omega) (fun x hx => by
      have := (List.mem_filter.1 hx).1; have := List.mem_range.1 this; omega)⟩
/-- One digit more at the end of a word. -/
theorem enc_more (n : Nat) (m : List Nat) (x : Nat) (hn : n < 16) (hm : Dig m) (hx : x < 16) (hl : m.length < 15) :
    bits .or .u64 ((enc (n :: m) : Nat) : Int) (IntKind.u64.wrap ((x : Int) * 2 ^ (4 * (m.length + 1)))) = ((enc (n :: (m ++ [x])) : Nat) : Int) := by
  have hD : Dig (n :: m) := Dig.cons hn hm
  have hlt := enc_lt _ hD
  rw [List.length_cons] at hlt
  have hle : 16 ^ (m.length + 1) ≤ 16 ^ 15 := Nat.pow_le_pow_right (by omega) (by omega)
  have hle2 : x * 16 ^ (m.length + 1) ≤ 15 * 16 ^ (m.length + 1) := Nat.mul_le_mul_right _ (by omega)
  have e1 : IntKind.u64.wrap ((x : Int) * 2 ^ (4 * (m.length + 1))) = ((x * 16 ^ (m.length + 1) : Nat) : Int) := by
    have hc : ((2 : Int) ^ (4 * (m.length + 1))) = ((16 ^ (m.length + 1) : Nat) : Int) := by rw [← pow16]; simp
    have hc2 : (x : Int) * ((16 ^ (m.length + 1) : Nat) : Int) = ((x * 16 ^ (m.length + 1) : Nat) : Int) := by simp
    rw [hc, hc2, IntKind.wrap_u64]
    generalize x * 16 ^ (m.length + 1) = q at *
    omega
  rw [e1, u64_plus' (m.length + 1) _ _ ?_ hlt (by omega) (Nat.mul_mod_left _ _)]
  · have := enc_append (n :: m) [x]
    rw [List.length_cons] at this
    rw [← List.cons_append, this, Nat.mul_comm x]
    simp [enc]
  · generalize x * 16 ^ (m.length + 1) = q at *
    omega

set_option maxHeartbeats 4000000 in
theorem of_law (a : Option Addr) (L : List Int) (cap : Nat) (hL : L.length ≤ 1048576) (w : World) (hR : Rd w a L) :
    Calls Try.prog 14 #[.slice a L.length cap] w fun e w' => e = .returned (.tuple #[.int .u64 ((ofV L).1 : Nat), .int .i64 (ofV L).2]) ∧ Below w.heap.size w w' := by
  have HR := Lib.hid hR
  clear hR
  obtain ⟨n, hn⟩ : ∃ n, L.length = n := ⟨_, rfl⟩
  have HN := Lib.hid hn
  rw [hn] at hL ⊢
  clear hn
  by_cases h15 : n ≤ 15
  · have h15i : (n : Int) ≤ 15 := by omega
    have hS0 := seen_new w
    go_enter Try.func14, Try.ntmps14
    go_wp2_with fail
    have B0 : Below w.heap.size w (w.alloc (.cells #[.bool false, .bool false, .bool false, .bool false, .bool false, .bool false, .bool false, .bool false, .bool false, .bool false, .bool false, .bool false, .bool false, .bool false, .bool false] 66)) := (Below.refl _ _).alloc (Nat.le_refl _) _
    generalize w.alloc (.cells #[.bool false, .bool false, .bool false, .bool false, .bool false, .bool false, .bool false, .bool false, .bool false, .bool false, .bool false, .bool false, .bool false, .bool false, .bool false] 66) = W0 at hS0 B0 ⊢
    go_loopw [5, 18] (fun p i wr => ∃ k : Nat, k ≤ n ∧ i = .int .i64 k ∧ p = .int .u64 ((enc (n :: (nats L).take k) : Nat) : Int) ∧ (∀ i < k, 0 ≤ L.getD i 0 ∧ L.getD i 0 < 15 ∧ (L.getD i 0).toNat ∉ (nats L).take i) ∧ Seen wr w.heap.size ((nats L).take k) ∧ Below w.heap.size w wr) (fun _ i _ => n - (intOf i).toNat)
    case atStart => exact ⟨0, by omega, rfl, by simp [enc], fun i hi => absurd hi (by omega), hS0, B0⟩
    case round =>
      clear hS0 B0
      obtain ⟨k, hk, rfl, rfl, hpre, hS, B⟩ := hrel
      have HP := Lib.hid hpre
      clear hpre
      by_cases hlt : k < n
      · have hkl : (k : Int) < (n : Int) := by omega
        have hkL : k < L.length := by rw [HN.out]; exact hlt
        have hkN : k < (nats L).length := by rw [nats_length]; exact hkL
        obtain ⟨b1, o1, e1, c1⟩ := HR.out.below B k hkL
        subst e1
        have hg := nats_get L k hkL
        obtain ⟨x, hx⟩ : ∃ x, L.getD k 0 = x := ⟨_, rfl⟩
        rw [hx] at c1 hg
        have HX := Lib.hid hx
        clear hx
        have bad : (¬ (0 ≤ x ∧ x < 15) ∨ x.toNat ∈ (nats L).take k) → ofV L = (0, 2) := fun hb => by
          unfold ofV
          rw [if_neg]
          intro h
          have := ((okI_iff L).1 h).2 k hkL
          rw [HX.out] at this
          rcases hb with hb | hb
          · exact hb ⟨this.1, this.2.1⟩
          · exact this.2.2 hb
        have HBAD := Lib.hid bad
        clear bad
        rcases (show x < 0 ∨ (¬ x < 0 ∧ 15 ≤ x) ∨ (¬ x < 0 ∧ ¬ 15 ≤ x) from by omega) with q | ⟨q1, q⟩ | ⟨q1, q2⟩
        · have E := Lib.hid (HBAD.out (.inl (by omega)))
          go_wp2_with fail
          go_ret2
          exact ⟨by rw [E.out]; rfl, B⟩
        · have E := Lib.hid (HBAD.out (.inl (by omega)))
          go_wp2_with fail
          go_ret2
          exact ⟨by rw [E.out]; rfl, B⟩
        · obtain ⟨y, rfl⟩ : ∃ y : Nat, x = y := ⟨x.toNat, by omega⟩
          have hy : y < 15 := by omega
          rw [Int.toNat_natCast] at hg
          have c := hS.cell y hy
          have f := hS.free y hy
          have hbl := hS.lt
          by_cases hm : y ∈ (nats L).take k
          · have E := Lib.hid (HBAD.out (.inr (by simpa using hm)))
            rw [decide_eq_true hm] at c
            clear hm hS hg
            go_wp2_with fail
            go_ret2
            exact ⟨by rw [E.out]; rfl, B⟩
          · have hS2 := hS.set y hy ((nats L).take (k + 1)) (fun j => by rw [← hg]; exact take_mem (nats L) k hkN j)
            have ht : (nats L).take (k + 1) = (nats L).take k ++ [y] := by
              rw [List.take_succ_eq_append_getElem hkN, ← hg]; simp [List.getD, List.getElem?_eq_getElem hkN]
            have hdig : Dig ((nats L).take k) := fun z hz => by
              obtain ⟨i, hi, rfl⟩ := List.getElem_of_mem hz
              simp at hi
              have := HP.out i (by omega)
              simp [nats, List.getD, List.getElem?_eq_getElem (show i < L.length by omega)] at this ⊢
              omega
            have hen := enc_more n ((nats L).take k) y (by omega) hdig (by omega) (by simp [nats_length]; omega)
            rw [show ((nats L).take k).length = k from by simp [nats_length]; omega, ← ht] at hen
            have hlt2 : enc (n :: (nats L).take k) < 18446744073709551616 := by
              have := enc_lt (n :: (nats L).take k) (Dig.cons (by omega) hdig)
              rw [List.length_cons, show ((nats L).take k).length = k from by simp [nats_length]; omega] at this
              have h2 : 16 ^ (k + 1) ≤ 16 ^ 16 := Nat.pow_le_pow_right (by omega) (by omega)
              omega
            have HEN := Lib.hid hen
            have HNM := Lib.hid (show (0 : Int) ≤ L.getD k 0 ∧ L.getD k 0 < 15 ∧ (L.getD k 0).toNat ∉ (nats L).take k by rw [HX.out]; exact ⟨by omega, by omega, by simpa using hm⟩)
            rw [decide_eq_false hm] at c
            have hyi : (y : Int) < 15 := by omega
            have hk14 : (k : Int) < 15 := by omega
            obtain ⟨p, hp⟩ : ∃ p, ((enc (n :: (nats L).take k) : Nat) : Int) = p := ⟨_, rfl⟩
            rw [hp] at HEN ⊢
            clear hm hS hen ht hdig hg hlt2 hp
            go_wp2_with fail
            go_roundw
            case rel => exact ⟨k + 1, by omega, by go_num, by rw [HEN.out], jstep HP.out HNM.out, hS2, B.setCell (Nat.le_refl _) _⟩
            case measure => simp [intOf]; omega
      · have hkl : ¬ (k : Int) < (n : Int) := by omega
        have hlen : L.length = n := HN.out
        have hok : okI L = true := (okI_iff L).2 ⟨by omega, fun i hi => HP.out i (by omega)⟩
        have hgood := okI_good hok
        have hof : ofV L = (enc (n :: (nats L ++ rest (nats L) 15)), 0) := by unfold ofV; rw [if_pos hok, hlen]
        have hml : (nats L).length = n := by rw [nats_length, hlen]
        have htk : (nats L).take k = nats L := List.take_of_length_le (by omega)
        rw [htk] at hS ⊢
        obtain ⟨m, hm⟩ : ∃ m, nats L = m := ⟨_, rfl⟩
        rw [hm] at hgood hof hml hS ⊢
        have hmd : Dig m := fun x hx => by have := hgood.lt x hx; omega
        have hmr := hgood.length
        have HOF := Lib.hid hof
        have HMD := Lib.hid hmd
        have HML := Lib.hid hml
        have HMR := Lib.hid hmr
        have hn15 : n ≤ 15 := h15
        clear hof hok hgood hlen htk hm hmd hml hmr
        go_wp2_with fail
        obtain ⟨wo, rfl⟩ : ∃ wo : World, wo = wr := ⟨_, rfl⟩
        go_loopw [5, 8, 47] (fun p x i wr => ∃ j : Nat, j ≤ 15 ∧ i = .int .i64 j ∧ x = .int .i64 ((n + (rest m j).length : Nat) : Int) ∧ p = .int .u64 ((enc (n :: (m ++ rest m j)) : Nat) : Int) ∧ Seen wr w.heap.size m ∧ Below w.heap.size w wr) (fun _ _ i _ => 15 - (intOf i).toNat)
        case atStart => exact ⟨0, by omega, rfl, by simp [rest], by simp [rest], hS, B⟩
        case round =>
          clear hS B
          obtain ⟨j, hj, rfl, rfl, rfl, hS, B⟩ := hrel
          by_cases hlt2 : j < 15
          · have hjl : (j : Int) < 15 := by omega
            have c := hS.cell j hlt2
            have hrs := rest_succ m j
            have hle := rest_le m (j + 1) (by omega)
            by_cases hm : j ∈ m
            · rw [decide_eq_true hm] at c
              rw [if_pos hm, List.append_nil] at hrs
              have HRS := Lib.hid hrs
              obtain ⟨x, hx⟩ : ∃ x, ((n + (rest m j).length : Nat) : Int) = x := ⟨_, rfl⟩
              obtain ⟨p, hp⟩ : ∃ p, ((enc (n :: (m ++ rest m j)) : Nat) : Int) = p := ⟨_, rfl⟩
              rw [hx, hp]
              have HX := Lib.hid hx
              have HP := Lib.hid hp
              clear hrs hm hx hp
              go_wp2_with fail
              go_roundw
              case rel => exact ⟨j + 1, by omega, by go_num, by rw [HRS.out, HX.out], by rw [HRS.out, HP.out], hS, B⟩
              case measure => simp [intOf]; omega
            · rw [decide_eq_false hm] at c
              rw [if_neg hm] at hrs
              have hlr : (rest m (j + 1)).length = (rest m j).length + 1 := by rw [hrs]; simp
              have hrd : Dig (rest m j) := fun z hz => by
                have := (List.mem_filter.1 hz).1; have := List.mem_range.1 this; omega
              have hml := HML.out
              have hmr := HMR.out
              have hen := enc_more n (m ++ rest m j) j (by omega) (Dig.append HMD.out hrd) (by omega) (by rw [List.length_append]; omega)
              rw [List.length_append, hml, List.append_assoc, ← hrs] at hen
              have HEN := Lib.hid hen
              obtain ⟨q, hq⟩ : ∃ q, (rest m j).length = q := ⟨_, rfl⟩
              rw [hq] at HEN hlr ⊢
              have HLR := Lib.hid hlr
              have hnq : n + q ≤ 14 := by omega
              obtain ⟨x, hx⟩ : ∃ x, n + q = x := ⟨_, rfl⟩
              rw [hx] at HEN hnq ⊢
              have HX := Lib.hid hx
              have hxi : (x : Int) ≤ 14 := by omega
              obtain ⟨p, hp⟩ : ∃ p, ((enc (n :: (m ++ rest m j)) : Nat) : Int) = p := ⟨_, rfl⟩
              rw [hp] at HEN ⊢
              clear hrs hm hx hq hp hlr hen hml hmr hle hrd
              go_wp2_with fail
              go_roundw
              case rel => exact ⟨j + 1, by omega, by go_num, by have h1 := HX.out; have h2 := HLR.out; rw [h2]; go_num, by rw [HEN.out], hS, B⟩
              case measure => simp [intOf]; omega
          · have hjl : ¬ (j : Int) < 15 := by omega
            have e : j = 15 := by omega
            subst e
            go_wp2_with fail
            go_ret2
            exact ⟨by rw [HOF.out]; rfl, B⟩
  · have h15i : 15 < (n : Int) := by omega
    have e : ofV L = (0, 2) := by
      unfold ofV
      rw [if_neg]
      intro h
      have := ((okI_iff L).1 h).1
      have := HN.out
      omega
    rw [e]
    go_enter Try.func14, Try.ntmps14
    go_wp2_with fail
    go_ret2
    exact ⟨rfl, (Below.refl _ _).alloc (Nat.le_refl _) _⟩
end Go.Proofs.Ytochdmdojcfceaa
