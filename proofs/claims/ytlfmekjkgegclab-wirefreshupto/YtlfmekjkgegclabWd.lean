/-
  Contracts of inBounds, powerWithin, Pow, Exp, Log, Inv, Div.
-/
import Derived.Test.YtlfmekjkgegclabWc
import Derived.Deep.QuietTactic
import Derived.BigQuiet
namespace Go.Proofs.Ytlfmekjkgegclab
open Go.RowKit
/-- A number that an int holds. -/
def I64 (n : Int) : Prop := -9223372036854775808 ≤ n ∧ n ≤ 9223372036854775807
/-- The exponent from 0 to 254 whose power is that of n. -/
def inb (n : Int) : Int := n % 255
theorem inb_bd (n : Int) : 0 ≤ inb n ∧ inb n < 255 := by unfold inb; omega
theorem tmod_neg (n : Int) (h : n < 0) : n.tmod 255 = -((-n) % 255) := by
  have e : n = -(-n) := by omega
  have e2 : (-n).tmod 255 = (-n) % 255 := Int.tmod_eq_emod_of_nonneg (by omega)
  rw [← e2, ← Int.neg_tmod, ← e]
end Go.Proofs.Ytlfmekjkgegclab
