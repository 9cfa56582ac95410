/-
  Contracts of the program's tree: what a shape is asked for.
-/
import Derived.Test.YtgmndjbicandfaaDoorDd
namespace Go.Proofs.YtgmndjbicandfaaDoor
open Go.RowKit
theorem szBool : (Tryd.prog.info? 4).map (·.size) = some 1 := by kernel_rfl
theorem all4 {x y z u : Value} (h0 : x.oneCell' = true) (h1 : y.oneCell' = true) (h2 : z.oneCell' = true) (h3 : u.oneCell' = true) : (#[x, y, z, u] : Array Value).all (·.oneCell') = true := by simp [h0, h1, h2, h3]
/-- What a shape's fields must be: a name, rows, how many arguments, how many parts. -/
def skr (k : Nat) : Bool := decide (k = 8)
def ska (k : Nat) : Nat := if k = 4 ∨ k = 5 then 3 else if k = 2 ∨ k = 3 then 2 else 0
def skp (k : Nat) : Nat := if k = 6 ∨ k = 7 then 2 else 0
def skk (k : Nat) : Bool := decide (1 ≤ k ∧ k ≤ 8)
end Go.Proofs.YtgmndjbicandfaaDoor
