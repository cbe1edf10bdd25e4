/- RowBack: the blocks together. -/
import Derived.Test.YtkgcbhpgkcfkhaaDoorBk1
import Derived.Test.YtkgcbhpgkcfkhaaDoorBk2
import Derived.Test.YtkgcbhpgkcfkhaaDoorBk3
namespace Go.Proofs.YtkgcbhpgkcfkhaaDoor
open Go.ChangeShapes Go.WideShapes Go.ChangeAt Go.RowKit
theorem rowback_law (a : Option Addr) (R : List P1) (n cap : Nat) (hn : R.length = n) (bR : ∀ p ∈ R, Byt p.bs)
    (f0 f1 k0 k1 b : Option Addr) (F0 F1 K0 K1 L : List Int) (l0 l1 m0 m1 nb c0 c1 e0 e1 cb : Nat)
    (hl0 : F0.length = l0) (hl1 : F1.length = l1) (hm0 : K0.length = m0) (hm1 : K1.length = m1) (hnb : L.length = nb)
    (z0 : l0 ≤ 140737488355328) (z1 : l1 ≤ 140737488355328) (z2 : m0 ≤ 140737488355328) (z3 : m1 ≤ 140737488355328)
    (bF0 : Byt F0) (bF1 : Byt F1) (bK0 : Byt K0) (bK1 : Byt K1) (bL : Byt L)
    (w : World) (hR : RdR w a R) (hF0 : Ls .u8 w f0 c0 F0) (hF1 : Ls .u8 w f1 c1 F1) (hK0 : Ls .u8 w k0 e0 K0) (hK1 : Ls .u8 w k1 e1 K1) (hL : Ls .u8 w b cb L) :
    Calls Tryd.prog 4 #[.slice a n cap, .agg #[.slice f0 l0 c0, .slice f1 l1 c1], .agg #[.slice k0 m0 e0, .slice k1 m1 e1], .slice b nb cb] w fun r w' => r = .returned (.bool true) ∧ Below w.heap.size w w' :=
  back_law a R n cap hn bR f0 f1 k0 k1 b F0 F1 K0 K1 L l0 l1 m0 m1 nb c0 c1 e0 e1 cb hl0 hl1 hm0 hm1 hnb bF0 bF1 bK0 bK1 bL w
    (blk2 a n cap f0 f1 k0 k1 b L l0 l1 m0 m1 nb c0 c1 e0 e1 cb hnb bL w hL
      (blk3 a n cap f0 f1 k0 k1 b F0 F1 K0 K1 l0 l1 m0 m1 nb c0 c1 e0 e1 cb hl0 hl1 hm0 hm1 z0 z1 z2 z3 bF0 bF1 bK0 bK1 w hF0 hF1 hK0 hK1)) hR hF0 hF1 hK0 hK1 hL
#print axioms rowback_law
end Go.Proofs.YtkgcbhpgkcfkhaaDoor
