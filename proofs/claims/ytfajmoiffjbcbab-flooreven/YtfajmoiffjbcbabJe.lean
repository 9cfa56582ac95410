/-
  Contracts of Choose and Upto.
-/
import Derived.Test.YtfajmoiffjbcbabJd
namespace Go.Proofs.Ytfajmoiffjbcbab
open Go.RowKit
/-- What Choose tells: a number, or nothing of the kind. -/
def chs (n k : Int) : Nat := if 0 ≤ k then bin n.toNat k.toNat else 0
theorem chs_nat (n k : Nat) : chs n k = bin n k := if_pos (Int.natCast_nonneg k)
/-- What Upto tells. -/
def upv (n : Nat) (t : Int) : Nat := upt6 n (min t n + 1).toNat
def upa (u : Nat) : Array Value := if u ≤ 4611686018427387904 then #[.int .i64 (u : Int), .int .i64 0] else #[.int .i64 0, .int .i64 4]
end Go.Proofs.Ytfajmoiffjbcbab
