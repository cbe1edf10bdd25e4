/- Part of the proof that ModelApplies holds for every input: writes that are done on tables leave them as the document says. Part 22. -/
import Derived.Test.YthmofoldmdafoaaGreatSvu
set_option linter.unusedVariables false
set_option linter.unusedSimpArgs false
set_option maxRecDepth 100000
set_option maxHeartbeats 4000000
namespace Go.Proofs.YthmofoldmdafoaaGreat
open Go.ChangeShapes Go.WideShapes Go.ChangeAt Go.RowKit
open Go.Lib (hid)
open Go.Proofs.Tryz
section
open Go.Maps
def StrR (W : World) (a : Option Addr) (F : List (List Int)) : Prop := ∀ (k : Nat) (s : List Int), F[k]? = some s -> ∃ b off, a = some ⟨b, off, none⟩ /\ W.cell? ⟨b, off + k, none⟩ = some (.string (strOfNums s))
theorem StrR.below {W W' : World} {a : Option Addr} {F : List (List Int)} (h : StrR W a F) (hb : Below W.heap.size W W') : StrR W' a F := fun k s hs => by
 obtain ⟨b, off, e, c⟩ := h k s hs
 exact ⟨b, off, e, tcb hb c⟩
theorem ae_row : AE 50 42 (.slice none 0 0) 1 24 := ⟨underlying50, by kernel_rfl, by decide, by decide, by decide⟩
theorem cells_one (R : List P1) : cellsOf (fun p : P1 => [p.v]) R = R.map P1.v := by
 unfold cellsOf
 induction R with
 | nil => rfl
 | cons p r ih => rw [List.map_cons, List.flatten_cons, ih]; rfl
def OpR (w : World) (k0 : Int) (s : List Int) (F : List (List Int)) (r : Ending) (w' : World) : Prop :=
 ∃ (ka : Option Addr) (kc : Nat) (ra : Option Addr) (rc : Nat) (R : List P1), r = .returned (.agg #[.int .i64 k0, .int .i64 0, .int .i64 0, .slice ka s.length kc, .slice none 0 0, .int .i64 0, .slice ra R.length rc]) /\ Below w.heap.size w w' /\ R.map P1.bs = F /\ ∀ S : Nat -> Prop, (∀ q, S q -> q < w.heap.size) -> zs_ S w' fun W => zz_ W ⟨k0, 0, 0, ka, s.length, kc, s, none, 0, 0, [], 0, ra, R.length, rc, R⟩
theorem op_law (k0 : Int) (s : List Int) (bS : Byt s) (hs : s.length <= 1000) (fa : Option Addr) (n c : Nat) (F : List (List Int)) (hF : F.length = n) (hn : n <= 1000) (bF : ∀ f ∈ F, Byt f /\ f.length <= 1000) (w : World) (hS : StrR w fa F) :
  Calls prog 32 #[.int .i64 k0, .string (strOfNums s), .slice fa n c] w (OpR w k0 s F) := by
 have HF := hid hF
 have HBF := hid bF
 have HS := hid hS
 have HBS := hid (And.intro bS hs)
 have hcs := fun W => Qg_ W (strOfNums s)
 have hni : (n : Int) <= 1000 := by omega
 clear hF bF hS bS hs
 go_enter func32, ntmps32
 go_upto_region 2 with (fail)
 have hba : Below w.heap.size w (w.alloc (.cells #[.int .i64 0, .int .i64 0, .int .i64 0, .slice none 0 0, .slice none 0 0, .int .i64 0, .slice none 0 0] 74)) := bl1 _ _
 have hxa : zg_ (w.alloc (.cells #[.int .i64 0, .int .i64 0, .int .i64 0, .slice none 0 0, .slice none 0 0, .int .i64 0, .slice none 0 0] 74)) w.heap.size #[.int .i64 0, .int .i64 0, .int .i64 0, .slice none 0 0, .slice none 0 0, .int .i64 0, .slice none 0 0] 74 := zg_.new _ _ _
 have hsa : (w.alloc (.cells #[.int .i64 0, .int .i64 0, .int .i64 0, .slice none 0 0, .slice none 0 0, .int .i64 0, .slice none 0 0] 74)).heap.size = w.heap.size + 1 := by simp
 generalize w.alloc (.cells #[.int .i64 0, .int .i64 0, .int .i64 0, .slice none 0 0, .slice none 0 0, .int .i64 0, .slice none 0 0] 74) = wa at hba hxa hsa ⊢
 obtain ⟨kc, hkc⟩ := gtx (grownCap wa (strOfNums s).size 0 5)
 rw [hkc]
 have hkey := (bw_stay (S := fun q => q <= w.heap.size) wa HBS.out.1 (by have := HBS.out.2; unfold maxLen; omega) (fun q hq => by have : q <= w.heap.size := hq; omega)).mono fun _ h => h.1
 rw [hkc, hsa] at hkey
 have hbb : Below wa.heap.size wa (Lib.bytesWorld wa 5 (strOfNums s)) := qK_ _ _
 have hsb : (Lib.bytesWorld wa 5 (strOfNums s)).heap.size = w.heap.size + 2 := by rw [Lib.bytesWorld_size, hsa]
 generalize Lib.bytesWorld wa 5 (strOfNums s) = wb at hkey hbb hsb ⊢
 have HXB := hid (hxa.below hbb)
 have HBB := hid (hba.trans (hbb.mono hba.size))
 have HKEY := hid hkey
 have hbc : Below wb.heap.size wb (wb.alloc (.cells #[.int .i64 k0, .int .i64 0, .int .i64 0, .slice (some ⟨w.heap.size + 1, 0, none⟩) (strOfNums s).size kc, .slice none 0 0, .int .i64 0, .slice none 0 0] 74)) := bl1 _ _
 have hxc : zg_ (wb.alloc (.cells #[.int .i64 k0, .int .i64 0, .int .i64 0, .slice (some ⟨w.heap.size + 1, 0, none⟩) (strOfNums s).size kc, .slice none 0 0, .int .i64 0, .slice none 0 0] 74)) wb.heap.size #[.int .i64 k0, .int .i64 0, .int .i64 0, .slice (some ⟨w.heap.size + 1, 0, none⟩) (strOfNums s).size kc, .slice none 0 0, .int .i64 0, .slice none 0 0] 74 := zg_.new _ _ _
 generalize wb.alloc (.cells #[.int .i64 k0, .int .i64 0, .int .i64 0, .slice (some ⟨w.heap.size + 1, 0, none⟩) (strOfNums s).size kc, .slice none 0 0, .int .i64 0, .slice none 0 0] 74) = wc at hbc hxc ⊢
 obtain ⟨base, hbase⟩ := gtx (wb.heap.size)
 rw [hbase] at hbc hxc ⊢
 have HBC := hid hbc
 have HXC := hid hxc
 have HBE := hid (And.intro hbase hsb)
 clear hba hxa hsa hkc hkey hbb hsb hbc hxc hbase
 go_wp2_with fail
 go_loopw [8] (fun i wr => ∃ (k : Nat) (v : Value) (R' : List P1), k <= n /\ i = .int .i64 (k : Int) /\ Hid (zg_ wr base #[.int .i64 k0, .int .i64 0, .int .i64 0, .slice (some ⟨w.heap.size + 1, 0, none⟩) (strOfNums s).size kc, .slice none 0 0, .int .i64 0, v] 74) /\ Hid (R'.map P1.bs = F.take k) /\ Hid (wr.ownsRow base 42 1 v k (R'.map P1.v)) /\ Hid (∀ p ∈ R', zs_ (fun q => q <= w.heap.size ∨ q = base ∨ v.ownBlock = some q) wr (fun W => Ls .u8 W p.ad p.cap p.bs)) /\ Hid (Below base wb wr)) (fun i _ => n - (intOf i).toNat)
 case atStart => exact ⟨0, .slice none 0 0, [], by omega, rfl, HXC, hid rfl, hid (World.ownsRow_nil _ _ _ _), hid (fun p hp => by cases hp), HBC⟩
 case round =>
  obtain ⟨k, v, R', hk, rfl, HXP, HRB, HOW, HST, HB⟩ := hrel
  by_cases hlt : k < n
  ·have d1 : (k : Int) < (n : Int) := by omega
   obtain ⟨f, hf⟩ : ∃ f, F[k]? = some f := ⟨_, List.getElem?_eq_getElem (by rw [HF.out]; exact hlt)⟩
   have hbf := HBF.out f (List.mem_of_getElem? hf)
   have hbw : Below w.heap.size w wr := HBB.out.trans (HB.out.mono (by have := HBE.out; have := HBB.out.size; omega))
   obtain ⟨b1, o1, ea, p0⟩ := (HS.out.below hbw) k f hf
   subst ea
   have hnv : ∀ q, v.ownBlock = some q -> base <= q := fun q hq => (zb_ HOW.out hq).1
   have hnb : ¬ v.ownBlock = some base := fun e => by
    obtain ⟨_, _, cur, hb2⟩ := zb_ HOW.out e
    exact zp_ hb2 HXP.out Xt4 rfl
   have HBP := hid (fun X (o : Off (fun q => v.ownBlock = some q) wr X) => o.box HXP.out hnb)
   have HPX := hid (fun X (o : Off (fun q => v.ownBlock = some q) wr X) => (by rw [(HBP.out X o).cell]; rfl : X.cell? ⟨base, 6, none⟩ = some v))
   obtain ⟨b2, o2, eb, p1⟩ := HS.out k f hf
   cases eb
   have hlb := World.block_lt_of_cell? w _ p1
   have HSX := hid (fun X (o : Off (fun q => v.ownBlock = some q) wr X) => (o.cell p0 (fun e => by have := hnv _ e; have := HBE.out; have : b1 < w.heap.size := hlb; omega) : X.cell? ⟨b1, o1 + k, none⟩ = some (.string (strOfNums f))))
   have hce := fun W => Qg_ W (strOfNums f)
   have HBS2 := hid (show base <= wr.heap.size by have := HB.out.size; have := HBE.out; omega)
   have HFF := hid (And.intro hf hbf)
   have HWN := hid hbw
   clear hf hbf hbw p0 p1 hnv hnb hlb hcs
   go_upto_region 5 with (fail)
   refine zq_ (z := 10) (S := (fun X => Off (fun q => v.ownBlock = some q) wr X)) Xt3 ((Off.refl _ _).drew) fun hH => ?_
   refine tlk 0 rfl Xt2 ?_
   refine tlk 1 rfl (fun W hSw => by have m := HPX.out W hSw; exact tks) ?_
   refine tlk 2 rfl Xt2 ?_
   refine tlk 3 rfl Xt2 ?_
   refine tlk 4 rfl Xt2 ?_
   refine tlk 5 rfl (fun W hSw => by have m := HSX.out W hSw; exact tks) ?_
   refine tl1 6 rfl fun K hK => ?_
   go_simp
   have HB5 := hid (((Below.refl wr.heap.size wr).drew).trans (qK_ wr.drew (strOfNums f)))
   have HF5 := hid (hH.then (qK_ wr.drew (strOfNums f)))
   refine hK.out _ _ HF5.out fun hH => ?_
   refine stP ?_
   refine tl1 7 rfl fun K hK => ?_
   go_simp
   have HB6 := hid (za_ HB5.out (bl1 (Lib.bytesWorld wr.drew 5 (strOfNums f)) (.cells #[.slice (some ⟨wr.heap.size, 0, none⟩) (strOfNums f).size (grownCap wr.drew (strOfNums f).size 0 5)] 42)))
   have HF6 := hid (hH.then (bl1 (Lib.bytesWorld wr.drew 5 (strOfNums f)) (.cells #[.slice (some ⟨wr.heap.size, 0, none⟩) (strOfNums f).size (grownCap wr.drew (strOfNums f).size 0 5)] 42)))
   refine hK.out _ _ HF6.out fun hH => ?_
   refine stP ?_
   refine tl1 8 rfl fun K hK => ?_
   have hown := ze_ HOW.out HB6.out
   refine zC_ ae_row rfl _ _ rfl base v k (R'.map P1.v) rfl hown ⟨(Lib.bytesWorld wr.drew 5 (strOfNums f)).heap.size, 0, none⟩ 1 1 [.slice (some ⟨wr.heap.size, 0, none⟩) (strOfNums f).size (grownCap wr.drew (strOfNums f).size 0 5)] (by simp [go_sem]) rfl (zy_ (Lib.bytesWorld wr.drew 5 (strOfNums f)) _ _ _ rfl) Xt31 Xt0 (Nat.le_trans HBS2.out HB6.out.size) ?_
   intro v9 w9 hown9 hgrow9 hat9
   obtain ⟨a9, c9, hv9⟩ := zd_ hown9
   subst hv9
   have HO9 := hid hown9
   have HG9 := hid hgrow9
   have HAT := hid hat9
   have HF9 := hid (hH.trans (Off.of_row hgrow9))
   refine hK.out _ _ HF9.out (fun hHeldn => ?_)
   clear hown hown9 hgrow9 hat9
   clear hK K hH; have hH := hHeldn; clear hHeldn
   refine stP ?_
   refine tlk 9 rfl Xt2 ?_
   refine tlz rfl fun K hK => ?_
   have x4 := HPX.out w9 HF9.out
   have f4 := (HBP.out w9 HF9.out).frozen 6
   go_simp
   refine hK.out _ _ ?_
   clear hK K x4 f4
   refine stP ?_
   refine zv_ Xt3 ?_ _
   skip
   have hfl : (strOfNums f).size = f.length := xk_ f
   have hP9 := HBP.out w9 HF9.out
   have hne9 : ∀ g, Value.ownBlock (.slice a9 (k + 1) c9) = some g -> g ≠ base := fun g hg => by
    exact Xb88
   have oP : Off (fun q => q = base) w9 (w9.setCell ⟨base, 6, none⟩ (.slice a9 (k + 1) c9)) := Off.set (S := fun q => q = base) (Off.refl _ w9) ⟨base, 6, none⟩ rfl _
   have q2 : zg_ (w9.setCell ⟨base, 6, none⟩ (.slice a9 (k + 1) c9)) base #[.int .i64 k0, .int .i64 0, .int .i64 0, .slice (some ⟨w.heap.size + 1, 0, none⟩) (strOfNums s).size kc, .slice none 0 0, .int .i64 0, .slice a9 (k + 1) c9] 74 := heap_setCell_same w9 base 6 _ 74 _ hP9
   have q4 := zn_ HO9.out oP (fun g hg e => hne9 g hg e)
   have oA : Off (fun q => q <= w.heap.size ∨ q = base ∨ v.ownBlock = some q) wr (w9.setCell ⟨base, 6, none⟩ (.slice a9 (k + 1) c9)) := (HF9.out.mono fun q hq => .inr (.inr hq)).trans (oP.mono fun q hq => .inr (.inl hq))
   have oB : Off (fun q => q <= w.heap.size ∨ q = base ∨ v.ownBlock = some q) (Lib.bytesWorld wr.drew 5 (strOfNums f)) (w9.setCell ⟨base, 6, none⟩ (.slice a9 (k + 1) c9)) := (((Off.of (bl1 _ _)).trans (Off.of_row HG9.out)).mono (S := fun q => v.ownBlock = some q) fun q hq => .inr (.inr hq)).trans (oP.mono fun q hq => .inr (.inl hq))
   have hszb : (Lib.bytesWorld wr.drew 5 (strOfNums f)).heap.size = wr.heap.size + 1 := Lib.bytesWorld_size _ _ _
   have hnew : ∀ q, Value.ownBlock (.slice a9 (k + 1) c9) = some q -> v.ownBlock = some q ∨ wr.heap.size + 1 <= q := fun q hq => by
    rcases HAT.out with e | e
    ·exact .inl (e ▸ hq)
    ·rw [hq, World.size_alloc, hszb] at e
     injection e with e
     exact .inr Xt0
   have hxlt := HXP.out.lt
   have hwlt := HWN.out.size
   have hbw6 : w.heap.size < wr.heap.size := by have := HBE.out; have := HBS2.out; omega
   have q8 : ∀ p ∈ R' ++ [⟨some ⟨wr.heap.size, 0, none⟩, grownCap wr.drew (strOfNums f).size 0 5, f⟩], zs_ (fun q => q <= w.heap.size ∨ q = base ∨ Value.ownBlock (.slice a9 (k + 1) c9) = some q) (w9.setCell ⟨base, 6, none⟩ (.slice a9 (k + 1) c9)) (fun W => Ls .u8 W p.ad p.cap p.bs) := fun p hp => by
    rcases List.mem_append.1 hp with hp | hp
    ·refine (HST.out p hp).step oA fun q hq => ?_
     exact Xb74
    ·rw [List.mem_singleton] at hp
     subst hp
     refine ((bw_stay (S := fun q => q <= w.heap.size ∨ q = base ∨ v.ownBlock = some q) wr.drew HFF.out.2.1 (by have := HFF.out.2.2; unfold maxLen; omega) (fun q hq => ?_)).mono fun _ h => h.1).step oB fun q hq => ?_
     ·show q < wr.heap.size
      rcases hq with hq | hq | hq
      ·omega
      ·omega
      ·exact (zb_ HOW.out hq).2.1
     ·exact Xb74
   have q7 : Below base wb (w9.setCell ⟨base, 6, none⟩ (.slice a9 (k + 1) c9)) := (Off.below HB.out HF9.out (by have := HBE.out; omega) (fun g hg => (zb_ HOW.out hg).1)).setCell (Nat.le_refl _) _
   have HFL := hid hfl
   have Q2 := hid q2
   have Q4 := hid q4
   have Q7 := hid q7
   have Q8 := hid q8
   clear hfl hP9 hne9 oP q2 q4 oA oB hszb hnew hxlt hwlt hbw6 q8 q7 hce
   go_wp2_with fail
   go_roundw
   case rel =>
    refine ⟨k + 1, .slice a9 (k + 1) c9, _, by omega, by go_num, Q2, hid ?_, hid ?_, Q8, Q7⟩
    ·rw [List.map_append, HRB.out, List.take_add_one, HFF.out.1]; rfl
    ·rw [List.map_append]
     have := Q4.out
     rw [HFL.out] at this
     have e : List.map P1.v [(⟨some ⟨wr.heap.size, 0, none⟩, grownCap wr.drew (strOfNums f).size 0 5, f⟩ : P1)] = [.slice (some ⟨wr.heap.size, 0, none⟩) f.length (grownCap wr.drew f.length 0 5)] := by rw [HFL.out]; rfl
     rw [e]
     exact this
   case measure => simp [intOf]; omega
  ·have d1 : ¬ (k : Int) < (n : Int) := by omega
   have hke : k = n := by omega
   have HKE := hid hke
   obtain ⟨va, vc, hv⟩ := zd_ HOW.out
   subst hv
   rw [hke] at HXP HOW HST
   have hx6 := HXB.out.below (HBE.out.1 ▸ HB.out)
   have x0 := hx6.cell 0
   have x1 := hx6.cell 1
   have x2 := hx6.cell 2
   have x3 := hx6.cell 3
   have x4 := hx6.cell 4
   have x5 := hx6.cell 5
   have x6 := hx6.cell 6
   have f0 := hx6.frozen 0
   have f1 := hx6.frozen 1
   have f2 := hx6.frozen 2
   have f3 := hx6.frozen 3
   have f4 := hx6.frozen 4
   have f5 := hx6.frozen 5
   have f6 := hx6.frozen 6
   have y0 := HXP.out.cell 0
   have y1 := HXP.out.cell 1
   have y2 := HXP.out.cell 2
   have y3 := HXP.out.cell 3
   have y4 := HXP.out.cell 4
   have y5 := HXP.out.cell 5
   have y6 := HXP.out.cell 6
   simp only [gtA, gtB, gtC] at x0 x1 x2 x3 x4 x5 x6 y0 y1 y2 y3 y4 y5 y6
   clear hke hcs
   go_wp2_with fail
   clear x0 x1 x2 x3 x4 x5 x6 y0 y1 y2 y3 y4 y5 y6 f0 f1 f2 f3 f4 f5 f6
   have o7 : Off (fun q => q = w.heap.size) wr (((((((wr.setCell ⟨w.heap.size, 0, none⟩ (.int .i64 k0)).setCell ⟨w.heap.size, 1, none⟩ (.int .i64 0)).setCell ⟨w.heap.size, 2, none⟩ (.int .i64 0)).setCell ⟨w.heap.size, 3, none⟩ (.slice (some ⟨w.heap.size + 1, 0, none⟩) (strOfNums s).size kc)).setCell ⟨w.heap.size, 4, none⟩ (.slice none 0 0)).setCell ⟨w.heap.size, 5, none⟩ (.int .i64 0)).setCell ⟨w.heap.size, 6, none⟩ (.slice va n vc)) := (Off.set (S := fun q => q = w.heap.size) (Off.set (S := fun q => q = w.heap.size) (Off.set (S := fun q => q = w.heap.size) (Off.set (S := fun q => q = w.heap.size) (Off.set (S := fun q => q = w.heap.size) (Off.set (S := fun q => q = w.heap.size) (Off.set (S := fun q => q = w.heap.size) (Off.refl _ wr) ⟨w.heap.size, 0, none⟩ rfl _) ⟨w.heap.size, 1, none⟩ rfl _) ⟨w.heap.size, 2, none⟩ rfl _) ⟨w.heap.size, 3, none⟩ rfl _) ⟨w.heap.size, 4, none⟩ rfl _) ⟨w.heap.size, 5, none⟩ rfl _) ⟨w.heap.size, 6, none⟩ rfl _)
   have hx7 : zg_ (((((((wr.setCell ⟨w.heap.size, 0, none⟩ (.int .i64 k0)).setCell ⟨w.heap.size, 1, none⟩ (.int .i64 0)).setCell ⟨w.heap.size, 2, none⟩ (.int .i64 0)).setCell ⟨w.heap.size, 3, none⟩ (.slice (some ⟨w.heap.size + 1, 0, none⟩) (strOfNums s).size kc)).setCell ⟨w.heap.size, 4, none⟩ (.slice none 0 0)).setCell ⟨w.heap.size, 5, none⟩ (.int .i64 0)).setCell ⟨w.heap.size, 6, none⟩ (.slice va n vc)) w.heap.size #[.int .i64 k0, .int .i64 0, .int .i64 0, .slice (some ⟨w.heap.size + 1, 0, none⟩) (strOfNums s).size kc, .slice none 0 0, .int .i64 0, .slice va n vc] 74 := (heap_setCell_same ((((((wr.setCell ⟨w.heap.size, 0, none⟩ (.int .i64 k0)).setCell ⟨w.heap.size, 1, none⟩ (.int .i64 0)).setCell ⟨w.heap.size, 2, none⟩ (.int .i64 0)).setCell ⟨w.heap.size, 3, none⟩ (.slice (some ⟨w.heap.size + 1, 0, none⟩) (strOfNums s).size kc)).setCell ⟨w.heap.size, 4, none⟩ (.slice none 0 0)).setCell ⟨w.heap.size, 5, none⟩ (.int .i64 0)) w.heap.size 6 _ 74 _ (heap_setCell_same (((((wr.setCell ⟨w.heap.size, 0, none⟩ (.int .i64 k0)).setCell ⟨w.heap.size, 1, none⟩ (.int .i64 0)).setCell ⟨w.heap.size, 2, none⟩ (.int .i64 0)).setCell ⟨w.heap.size, 3, none⟩ (.slice (some ⟨w.heap.size + 1, 0, none⟩) (strOfNums s).size kc)).setCell ⟨w.heap.size, 4, none⟩ (.slice none 0 0)) w.heap.size 5 _ 74 _ (heap_setCell_same ((((wr.setCell ⟨w.heap.size, 0, none⟩ (.int .i64 k0)).setCell ⟨w.heap.size, 1, none⟩ (.int .i64 0)).setCell ⟨w.heap.size, 2, none⟩ (.int .i64 0)).setCell ⟨w.heap.size, 3, none⟩ (.slice (some ⟨w.heap.size + 1, 0, none⟩) (strOfNums s).size kc)) w.heap.size 4 _ 74 _ (heap_setCell_same (((wr.setCell ⟨w.heap.size, 0, none⟩ (.int .i64 k0)).setCell ⟨w.heap.size, 1, none⟩ (.int .i64 0)).setCell ⟨w.heap.size, 2, none⟩ (.int .i64 0)) w.heap.size 3 _ 74 _ (heap_setCell_same ((wr.setCell ⟨w.heap.size, 0, none⟩ (.int .i64 k0)).setCell ⟨w.heap.size, 1, none⟩ (.int .i64 0)) w.heap.size 2 _ 74 _ (heap_setCell_same (wr.setCell ⟨w.heap.size, 0, none⟩ (.int .i64 k0)) w.heap.size 1 _ 74 _ (heap_setCell_same wr w.heap.size 0 _ 74 _ hx6)))))))
   generalize (((((((wr.setCell ⟨w.heap.size, 0, none⟩ (.int .i64 k0)).setCell ⟨w.heap.size, 1, none⟩ (.int .i64 0)).setCell ⟨w.heap.size, 2, none⟩ (.int .i64 0)).setCell ⟨w.heap.size, 3, none⟩ (.slice (some ⟨w.heap.size + 1, 0, none⟩) (strOfNums s).size kc)).setCell ⟨w.heap.size, 4, none⟩ (.slice none 0 0)).setCell ⟨w.heap.size, 5, none⟩ (.int .i64 0)).setCell ⟨w.heap.size, 6, none⟩ (.slice va n vc)) = w7 at o7 hx7 ⊢
   have q0 := hx7.cell 0
   have q1 := hx7.cell 1
   have q2 := hx7.cell 2
   have q3 := hx7.cell 3
   have q4 := hx7.cell 4
   have q5 := hx7.cell 5
   have q6 := hx7.cell 6
   simp only [gtA, gtB, gtC] at q0 q1 q2 q3 q4 q5 q6
   refine bodyPost_ret (v := .agg #[.int .i64 k0, .int .i64 0, .int .i64 0, .slice (some ⟨w.heap.size + 1, 0, none⟩) (strOfNums s).size kc, .slice none 0 0, .int .i64 0, .slice va n vc]) (by simp [results, results32, go_sem, q0, q1, q2, q3, q4, q5, q6]) rfl ?_
   have hrl : R'.length = n := by have := congrArg List.length HRB.out; rw [List.length_map, List.length_take, HF.out] at this; have := HKE.out; omega
   have hsl : (strOfNums s).size = s.length := xk_ s
   have hrb : R'.map P1.bs = F := by rw [HRB.out, List.take_of_length_le (by rw [HF.out, HKE.out]; exact Nat.le_refl _)]
   have hbs := HBE.out
   have hbl : Below w.heap.size w w7 := Off.below (HBB.out.trans (HB.out.mono Xt0)) o7 (Nat.le_trans HBB.out.size (by have := HB.out.size; exact this)) (fun q hq => by cases hq; exact Nat.le_refl _)
   have hown := zn_ HOW.out o7 (fun q hq e => by have := (zb_ HOW.out hq).1; omega)
   refine ⟨some ⟨w.heap.size + 1, 0, none⟩, kc, va, vc, R', by rw [hrl, hsl], hbl, hrb, fun S' hS' W' o => ⟨?_, rfl, HBS.out.1, Ls.nul _ _, rfl, (fun x hx => by cases hx), ?_, rfl, fun p hp => ?_⟩⟩
   ·exact HKEY.out W' (((Off.of (hbs.1 ▸ HB.out)).trans (o7.mono fun q hq => by have : q = w.heap.size := hq; show q <= _; omega)).trans (o.mono fun q hq => Nat.le_of_lt (hS' q hq)))
   ·intro i p hp
    have hown2 := zn_ hown o (fun q hq e => by have h1 := hS' q e; have h2 := (zb_ hown hq).1; omega)
    have hoc : W'.ownsRow base 42 1 (.slice va n vc) n (cellsOf (fun p : P1 => [p.v]) R') := by rw [cells_one]; exact hown2
    obtain ⟨g, e, _, hc⟩ := zt_ (f := fun p : P1 => [p.v]) (sz := 1) (fun _ => rfl) Xt0 hoc hrl i p hp
    cases e
    refine ⟨g, 0, rfl, ?_, (HST.out p (List.mem_of_getElem? hp)) W' ((o7.mono fun q hq => .inl (by have : q = w.heap.size := hq; omega)).trans (o.mono fun q hq => .inl (Nat.le_of_lt (hS' q hq))))⟩
    have := hc 0 Xt0
    rw [Nat.mul_one, Nat.add_zero] at this
    rw [Nat.zero_add]
    exact this
   ·exact (HBF.out p.bs (by rw [← hrb]; exact List.mem_map.2 ⟨p, hp, rfl⟩)).1
end
section
variable {F : Fence} {n : Nat} {P : Program}
def SeqX {α : Type} (F : Fence) (n : Nat) (P : Program) (g : Nat) (lb : Array Value) (encs : α -> Array Value) (Kp : World -> World -> Prop) (Px : Nat -> α -> World -> Prop) (N : Nat) (w : World) : Prop :=
 ∀ (l : Nat) (J Jx : Nat -> World -> Prop) (W : World), Below w.heap.size w W -> w.heap.size + 2 <= W.heap.size -> (∀ k A B, J k A -> Below A.heap.size A B -> J k B) -> (∀ k A B, Jx k A -> Below A.heap.size A B -> Jx k B) ->
  (∀ k x W1, k < N -> J k W1 -> Px k x W1 -> YieldAt F (n - 1) P l (encs x) W1 fun e W' => (e = .returned (.bool true) /\ J (k + 1) W' /\ Kp W1 W') ∨ (e = .returned (.bool false) /\ Jx k W')) ->
  J 0 W -> CallsIn F n P g (#[.func (.yield l) #[] #[]] ++ lb) W fun e W' => (∃ v, e = .returned v) /\ (J N W' ∨ ∃ k, k < N /\ Jx k W')
def Own2 {ι : Type} (base : Nat) (I : ι -> World -> Prop) : Prop := ∀ k A B, I k A -> Off (fun j => j = base ∨ j = base + 1) A B -> I k B
theorem Own2.below {ι : Type} {base : Nat} {I : ι -> World -> Prop} (h : Own2 base I) {k : ι} {A B : World} (hi : I k A) (b : Below A.heap.size A B) : I k B := h k A B hi (Off.of b)
theorem Own2.put {ι : Type} {base : Nat} {I : ι -> World -> Prop} (h : Own2 base I) {k : ι} {A : World} (hi : I k A) (o : Obj) : I k (A.putObj (base + 1) o) :=
 h k A _ hi ⟨rfl, rfl, rfl, by simp, fun j _ hj => World.putObj_heap_other fun e => hj (.inr e)⟩
def postX (B : Nat) (Kp : World -> World -> Prop) (I Ix : Nat -> World -> Prop) (k : Nat) (W : World) : Exit -> Act -> World -> Prop
 | .normal, _, W' => KeepsFrom B W W' /\ Kp W W' /\ I (k + 1) W'
 | .ret, _, W' => KeepsFrom B W W' /\ Ix k W'
 | _, _, _ => False
def qs_ (l d : Nat) (r : Loop) (W : World) : Prop := W.heap[l]? = some (.loop r) /\ W.heap[d]? = some (.deferred (some []))
theorem qs_.keeps {l d : Nat} {r : Loop} {B : Nat} {W W' : World} (h : qs_ l d r W) (k : KeepsFrom B W W') (hl : B <= l) (hd : B <= d) : qs_ l d r W' := ⟨k.same _ _ hl h.1 rfl, k.same _ _ hd h.2 rfl⟩
theorem qs_.put {l d : Nat} {r : Loop} {W : World} (h : qs_ l d r W) (hne : d ≠ l) (r' : Loop) : qs_ l d r' (W.putObj l (.loop r')) := ⟨World.putObj_heap_same (Array.getElem?_eq_some_iff.1 h.1).1, (World.putObj_heap_other hne).trans h.2⟩
theorem qs_.below {l d : Nat} {r : Loop} {A B : World} (h : qs_ l d r A) (b : Below A.heap.size A B) : qs_ l d r B :=
 ⟨(b.block l (Array.getElem?_eq_some_iff.1 h.1).1).trans h.1, (b.block d (Array.getElem?_eq_some_iff.1 h.2).1).trans h.2⟩
theorem jk_ {α : Type} {g : Operand} {ps : Array Tmp} {assign body : Code} {Q : Exit -> Act -> World -> Prop} {a : Act} {w : World}
  (hro : F.round = none) (h1 : 1 <= n) {gf : Nat} {lb : Array Value} (hg : a.eval g = .func (.func gf) #[] lb) (hFg : F.fn gf) (eg : ∀ args w, (callFunc gf args).run P w = .ok (.enter gf args) w)
  {encs : α -> Array Value} {Kp : World -> World -> Prop} {Px : Nat -> α -> World -> Prop} {N : Nat} (hseq : SeqX F (n - 1) P gf lb encs Kp Px N w)
  (hKt : ∀ {A B C : World}, Kp A B -> Kp B C -> Kp A C) (hKb : ∀ (W : World) (o' : Obj), Kp W (W.putObj (w.heap.size + 1) o'))
  (hPb : ∀ (k : Nat) (x : α) (W : World) (o' : Obj), Px k x W -> Px k x (W.putObj (w.heap.size + 1) o')) (hps : ∀ x, (encs x).size = ps.size)
  (I Ix : Nat -> World -> Prop) (hI : Own2 w.heap.size I) (hIx : Own2 w.heap.size Ix) (h0 : I 0 w) (Ax : α -> Act -> World -> Prop) (hAx : ∀ x a', Own2 w.heap.size (fun (_ : Unit) W => Ax x a' W))
  (hassign : ∀ (l k : Nat) (x : α) (W : World) (K : Act -> World -> Prop), k < N -> I k W -> Px k x W -> (∀ a' W', KeepsFrom w.heap.size W W' -> Kp W W' -> I k W' -> Px k x W' -> Ax x a' W' -> K a' W') ->
   assign.wpIn (F.inRound l) (n - 1 - 1) P (Exit.then K (fun _ _ _ => False)) { tmps := (ps.zip (encs x)).foldl (fun t (p, v) => t.setIfInBounds p v) a.tmps, defers := [] } W)
  (hbody : ∀ (l k : Nat) (x : α) (a' : Act) (W : World), k < N -> I k W -> Px k x W -> Ax x a' W -> body.wpIn (F.inRound l) (n - 1 - 1) P (postX w.heap.size Kp I Ix k W) a' W)
  (hdone : ∀ (W : World), I N W -> W.heap[w.heap.size]? = some (.deferred (some [])) -> Q .normal { a with defers := { target := .collected w.heap.size, args := #[] } :: a.defers } W)
  (hstop : ∀ (k : Nat) (W : World), k < N -> Ix k W -> W.heap[w.heap.size]? = some (.deferred (some [])) -> Code.ret.wpIn F n P Q { a with defers := { target := .collected w.heap.size, args := #[] } :: a.defers } W) :
  (Code.rangeFunc g ps assign body).wpIn F n P Q a w := by
 refine wpIn_rangeFunc fun fn hfn => ?_
 rw [hro]
 obtain ⟨d, hd⟩ := gtx (w.heap.size)
 obtain ⟨mk, hmk⟩ : ∃ mk : LoopState -> Option Code -> Loop, mk = fun st pe => { state := st, pending := pe, fn, tmps := a.tmps, params := ps, assign, body, defers := d } := ⟨_, rfl⟩
 obtain ⟨V, hV⟩ := gtx ((w.alloc (.deferred (some []))).alloc (.loop (mk .ready none)))
 have hsz : V.heap.size = d + 2 := by rw [← hV, ← hd]; simp
 have hrec : qs_ (d + 1) d (mk .ready none) V := by
  rw [← hV, ← hd]
  refine ⟨?_, (Below.heap_alloc _ _ _ Xt5).trans (World.alloc_heap_new w _)⟩
  have := World.alloc_heap_new (w.alloc (.deferred (some []))) (.loop (mk .ready none))
  rwa [World.size_alloc] at this
 have hIV : I 0 V := by rw [← hV]; exact hI.below (hI.below h0 (Below.alloc (Below.refl _ _) (Nat.le_refl _) _)) (Below.alloc (Below.refl _ _) (Nat.le_refl _) _)
 have hbV : Below w.heap.size w V := by rw [← hV]; exact (((Below.refl _ w).alloc (Nat.le_refl _) _).alloc Xt5 _)
 have hent : (Instr.enterLoop fn a.tmps ps assign body none).run P w = .ok (d + 1, [{ target := .collected d, args := #[] }]) V := by
  rw [← hV, hmk, ← hd]; exact run_enterLoop_outer _ _ _ _ _
 rw [hd] at hI hIx hAx hKb hPb hassign hbody hdone hstop
 clear hV
 refine ⟨d + 1, [{ target := .collected d, args := #[] }], V, { target := .fn (.func gf) lb, args := #[.func (.yield (d + 1)) #[] #[]] }, V, gf, #[.func (.yield (d + 1)) #[] #[]] ++ lb, V, hent, ?_, ?_, ?_, fun _ => h1, ?_⟩
 ·simp only [resolve, hg]
  simp [go_sem]
 ·intro f' hf'
  simp [Target.leads] at hf'
  subst hf'
  exact hFg
 ·simp [invoke, go_sem, eg]
 refine (hseq (d + 1) (fun k W => I k W /\ qs_ (d + 1) d (mk .ready none) W) (fun k W => Ix k W /\ qs_ (d + 1) d (mk .done (some .ret)) W) V hbV Xt0
  (fun s A B hs b => ⟨hI.below hs.1 b, hs.2.below b⟩) (fun s A B hs b => ⟨hIx.below hs.1 b, hs.2.below b⟩) ?_ ⟨hIV, hrec⟩).mono ?_
 ·rintro k x W hk ⟨hi, hr⟩ hpx
  have hy := run_yield (P := P) (args := encs x) hr.1 (by rw [hmk]; exact hps x)
  rw [hmk] at hy
  refine ⟨fn, _, assign, body, hy, roundIn_of_wpIn hfn (hassign _ k x W _ hk hi hpx ?_)⟩
  intro a' W2 hkf hkp hi2 hpx2 hax
  have hr2 := hr.keeps hkf Xt0 (Nat.le_refl _)
  refine ⟨_, run_beginRound hr2.1 (by rw [hmk]), ?_⟩
  have hr3 := hr2.put Xt0 { mk .ready none with state := .busy }
  have hkp3 := hKb W2 (.loop { mk .ready none with state := .busy })
  refine wpIn_mono (hbody (d + 1) k x a' _ hk (hI.put hi2 _) (hPb k x W2 _ hpx2) ((hAx x a').put (k := ()) hax _)) ?_
  have ending : ∀ (jump : Option Code) (W3 : World), qs_ (d + 1) d { mk .ready none with state := .busy } W3 -> (Instr.endRound (d + 1) jump).run P W3 = .ok (.bool jump.isNone) (W3.putObj (d + 1) (.loop (mk (if jump.isNone then .ready else .done) jump))) := fun jump W3 h3 => by
   have hl3 := h3.1
   have := run_endRound (P := P) jump hl3
   rw [hmk] at this ⊢
   exact this
  rintro e a3 W3 hp
  cases e with
  | normal =>
   obtain ⟨k3, kp3, i3⟩ := hp
   have h3 := hr3.keeps k3 Xt0 (Nat.le_refl _)
   exact ⟨_, _, ending none W3 h3, Or.inl ⟨rfl, ⟨hI.put i3 _, h3.put Xt0 _⟩, hKt hkp (hKt hkp3 (hKt kp3 (hKb W3 _)))⟩⟩
  | ret =>
   obtain ⟨k3, i3⟩ := hp
   have h3 := hr3.keeps k3 Xt0 (Nat.le_refl _)
   exact ⟨_, _, ending (some .ret) W3 h3, Or.inr ⟨rfl, hIx.put i3 _, h3.put Xt0 _⟩⟩
  | exit id => exact hp.elim
  | goto t => exact hp.elim
  | panic ch => exact hp.elim
  | outgrown => exact hp.elim
 ·rintro e W2 ⟨⟨v, rfl⟩, (⟨hi, hr⟩ | ⟨k, hk, hi, hr⟩)⟩
  ·refine ⟨none, _, by have := run_endLoop (P := P) hr.1 (by rw [hmk]; simp); rw [hmk] at this; exact this, ?_⟩
   exact hdone _ (hI.put hi _) ((World.putObj_heap_other Xt0).trans hr.2)
  ·refine ⟨some .ret, _, by have := run_endLoop (P := P) hr.1 (by rw [hmk]; simp); rw [hmk] at this; exact this, ?_⟩
   exact hstop k _ hk (hIx.put hi _) ((World.putObj_heap_other Xt0).trans hr.2)
end
structure KpO (b : Nat) (ro : World -> Option Nat) (A B : World) : Prop where
 os : B.os = A.os
 tape : B.tape = A.tape
 output : B.output = A.output
 size : A.heap.size <= B.heap.size
 same : ∀ k, k < A.heap.size -> b <= k -> ro A ≠ some k -> B.heap[k]? = A.heap[k]?
 row : ∀ k, ro B = some k -> ro A = some k ∨ A.heap.size <= k
theorem KpO.trans {b : Nat} {ro : World -> Option Nat} {A B C : World} (h : KpO b ro A B) (k : KpO b ro B C) : KpO b ro A C :=
 ⟨k.os.trans h.os, k.tape.trans h.tape, k.output.trans h.output, Nat.le_trans h.size k.size,
  fun i hi hb hn => (k.same i (Nat.lt_of_lt_of_le hi h.size) hb (fun e => (h.row i e).elim hn Xt73)).trans (h.same i hi hb hn),
  fun i hi => (k.row i hi).elim (h.row i) fun hh => .inr (Nat.le_trans h.size hh)⟩
theorem KpO.below {b : Nat} {ro : World -> Option Nat} {A B : World} (h : Below A.heap.size A B) (hr : ro B = ro A) : KpO b ro A B := ⟨h.os, h.tape, h.output, h.size, fun k hk _ _ => h.block k hk, fun k hk => .inl (by rw [← hr]; exact hk)⟩
theorem KpO.put {b : Nat} {ro : World -> Option Nat} {A : World} {l : Nat} (o : Obj) (hl : l < b) (hr : ro (A.putObj l o) = ro A) : KpO b ro A (A.putObj l o) := ⟨rfl, rfl, rfl, by simp, fun k _ hb _ => World.putObj_heap_other Xt0, fun k hk => .inl (by rw [← hr]; exact hk)⟩
def Hg (b : Nat) (ro : World -> Option Nat) (W : World) (Q : World -> Prop) : Prop := ∃ lo hi, b <= lo /\ lo <= hi /\ hi <= W.heap.size /\ (∀ k, ro W = some k -> k < lo ∨ hi <= k) /\ zs_ (fun k => k < lo ∨ hi <= k) W Q
theorem Hg.now {b : Nat} {ro : World -> Option Nat} {W : World} {Q : World -> Prop} (h : Hg b ro W Q) : Q W := by
 obtain ⟨_, _, _, _, _, _, h⟩ := h
 exact h.now
theorem Hg.kp {b : Nat} {ro : World -> Option Nat} {W W' : World} {Q : World -> Prop} (h : Hg b ro W Q) (k : KpO b ro W W') : Hg b ro W' Q := by
 obtain ⟨lo, hi, h1, h0, h2, h3, h4⟩ := h
 refine ⟨lo, hi, h1, h0, Nat.le_trans h2 k.size, fun i e => (k.row i e).elim (h3 i) (fun h => .inr (Nat.le_trans h2 h)), h4.off ⟨k.os, k.tape, k.output, k.size, fun i hi' hn => k.same i hi' ?_ ?_⟩⟩
 ·exact Nat.le_trans h1 (Nat.le_of_not_lt fun h => hn (.inl h))
 ·exact fun e => hn (h3 i e)
theorem Hg.mono {b : Nat} {ro : World -> Option Nat} {W : World} {Q R : World -> Prop} (h : Hg b ro W Q) (hq : ∀ W, Q W -> R W) : Hg b ro W R := by
 obtain ⟨lo, hi, h1, h0, h2, h3, h4⟩ := h
 exact ⟨lo, hi, h1, h0, h2, h3, h4.mono hq⟩
theorem Hg.size {b : Nat} {ro : World -> Option Nat} {W : World} {Q : World -> Prop} (h : Hg b ro W Q) : b <= W.heap.size := by
 obtain ⟨lo, hi, h1, h0, h2, h3, h4⟩ := h
 omega
theorem Hg.stay {b : Nat} {ro : World -> Option Nat} {W : World} {Q : World -> Prop} {S : Nat -> Prop} (h : Hg b ro W Q) (hS : ∀ k, S k -> k < b) : zs_ S W Q := by
 obtain ⟨lo, hi, h1, h0, h2, h3, h4⟩ := h
 exact h4.less fun k hk => .inl (Nat.lt_of_lt_of_le (hS k hk) h1)
section
open Go.Maps Go.Shelf
attribute [local go_sem] Oper.semAt_some
def encP (y : PrV) : Array Value := #[.agg (pcl y).toArray]
def QP (x : PrV) (W : World) : Prop := Ls .u8 W x.ka x.kc x.K /\ RdR W x.ra x.R
def PsG (okp : PrV -> Prop) (w : World) (T : List Pr) (r : Ending) (w' : World) : Prop := ∃ a c P, r = .returned (.slice a P.length c) /\ Below w.heap.size w w' /\ P.map prC = T /\ (∀ p ∈ P, okp p) /\ P.length <= c /\ (a = none -> c = 0) /\ P.length <= 2000000 /\ ∀ S : Nat -> Prop, (∀ k, S k -> k < w.heap.size) -> zs_ S w' fun W' => zo_ W' a P
def okK (p : PrV) : Prop := zH_ p.K /\ rOk (p.R.map P1.bs)
structure PxP (okp : PrV -> Prop) (b : Nat) (ro : World -> Option Nat) (T : List Pr) (k : Nat) (x : PrV) (W : World) : Prop where
 at_ : T[k]? = some (prC x)
 ok : okp x
 lies : Hg b ro W (QP x)
theorem PxP.kp {okp : PrV -> Prop} {b : Nat} {ro : World -> Option Nat} {T : List Pr} {k : Nat} {x : PrV} {A B : World} (h : PxP okp b ro T k x A) (q : KpO b ro A B) : PxP okp b ro T k x B := ⟨h.at_, h.ok, h.lies.kp q⟩
theorem over80_x (okp : PrV -> Prop) (mm : Nat) (hm : 1 <= mm) (Bs B1 B2 : Nat) (T : List Pr) (w : World) (ro : World -> Option Nat) (hB : Boxed w Bs 142 (.func (.func 80) #[] #[.pointer (some ⟨B1, 0, none⟩), .pointer (some ⟨B2, 0, none⟩)]))
  (hN : ∀ W, Below w.heap.size w W -> Calls prog 80 #[.pointer (some ⟨B1, 0, none⟩), .pointer (some ⟨B2, 0, none⟩)] W (PsG okp W T)) (hro : ∀ W, Below w.heap.size w W -> ro W = none) (hrb : ∀ A B, w.heap.size <= A.heap.size -> Below A.heap.size A B -> ro B = ro A) :
  SeqX Fence.wide mm prog 106 #[.pointer (some ⟨Bs, 0, none⟩)] encP (KpO (w.heap.size + 2) ro) (PxP okp (w.heap.size + 2) ro T) T.length w := fun lp J Jx W hW hW2 hJ hJx hY h0 => by
 have hb : Boxed W Bs 142 (.func (.func 80) #[] #[.pointer (some ⟨B1, 0, none⟩), .pointer (some ⟨B2, 0, none⟩)]) := (hW.block Bs hB.lt).trans hB
 exact Xb4
theorem over84_x (okp : PrV -> Prop) (mm : Nat) (hm : 1 <= mm) (Bs B1 B2 B3 : Nat) (T : List Pr) (w : World) (ro : World -> Option Nat) (hB : Boxed w Bs 142 (.func (.func 84) #[] #[.pointer (some ⟨B1, 0, none⟩), .pointer (some ⟨B2, 0, none⟩), .pointer (some ⟨B3, 0, none⟩)]))
  (hN : ∀ W, Below w.heap.size w W -> Calls prog 84 #[.pointer (some ⟨B1, 0, none⟩), .pointer (some ⟨B2, 0, none⟩), .pointer (some ⟨B3, 0, none⟩)] W (PsG okp W T)) (hro : ∀ W, Below w.heap.size w W -> ro W = none) (hrb : ∀ A B, w.heap.size <= A.heap.size -> Below A.heap.size A B -> ro B = ro A) :
  SeqX Fence.wide mm prog 106 #[.pointer (some ⟨Bs, 0, none⟩)] encP (KpO (w.heap.size + 2) ro) (PxP okp (w.heap.size + 2) ro T) T.length w := fun lp J Jx W hW hW2 hJ hJx hY h0 => by
 have hb : Boxed W Bs 142 (.func (.func 84) #[] #[.pointer (some ⟨B1, 0, none⟩), .pointer (some ⟨B2, 0, none⟩), .pointer (some ⟨B3, 0, none⟩)]) := (hW.block Bs hB.lt).trans hB
 exact Xb4
end
end Go.Proofs.YthmofoldmdafoaaGreat
