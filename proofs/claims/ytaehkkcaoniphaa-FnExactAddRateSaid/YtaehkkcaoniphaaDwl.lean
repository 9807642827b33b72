/- The law of DaysWithRate. -/
import Derived.Test.YtaehkkcaoniphaaDwr
namespace Go.Proofs.Ytaehkkcaoniphaa
open Go.ChangeShapes Go.WideShapes Go.ChangeAt Go.RowKit
set_option linter.unusedVariables false

theorem Or.far {w w' : World} {base n c : Nat} {A : Option Addr} {xs : List Rt} {B : Nat} (h : Or w base A n c xs) (hg : w.grownBy w' (Value.slice A n c).ownBlock) (hB : B ≤ base) (hs : B ≤ w.heap.size) : Below B w w' :=
  (Below.refl _ _).grown hg hs (fun k e => Nat.le_trans hB (h.lo k e))
theorem Or.wrote {W w w' : World} {base n c : Nat} {A : Option Addr} {xs : List Rt} {B : Nat} (hW : Below B W w) (h : Or w base A n c xs) (hg : w.grownBy w' (Value.slice A n c).ownBlock) (hB : B ≤ base) (hs : B ≤ w.heap.size) : Below B W w' :=
  hW.grown hg hs (fun k e => Nat.le_trans hB (h.lo k e))
theorem daysR_len (rs : List Rt) (c : List UInt8) : (daysR rs c).1.length ≤ rs.length := by
  unfold daysR; split
  · split
    · simp
    · exact daysOf_len c rs
  · simp
end Go.Proofs.Ytaehkkcaoniphaa
