/-
  Contracts of the program's tree: what an item is asked for; what is zero.
-/
import Derived.Test.YtgmndjbicandfaaDoorDj
namespace Go.Proofs.YtgmndjbicandfaaDoor
open Go.RowKit
/-- What an item's fields must be: a name, a value, a shape, a place, a list; is its kind known? -/
def ikn (k : Nat) : Bool := decide (k = 1 ∨ k = 2 ∨ k = 3)
def ikp (k pl : Nat) : Bool := decide (k = 5 ∧ 1 ≤ pl ∧ pl ≤ 4)
def ikv (k pl : Nat) : Bool := decide (k = 1 ∨ k = 4 ∨ k = 6 ∨ (k = 5 ∧ pl = 3))
def ikl (k pl : Nat) : Bool := decide (k = 5 ∧ pl = 4)
def ikk (k pl : Nat) : Bool := decide ((1 ≤ k ∧ k ≤ 6) ∧ (k = 5 → 1 ≤ pl ∧ pl ≤ 4))
/-- Is it the zero shape, in the program's order? -/
theorem zs_order (k : Nat) (nm : ByteArray) (na : Nat) (args : Nat → Xt) (np nr : Nat) (rl : Nat → Nat) (rows : Nat → Nat → Xt) (ln cl : Int) : zsB ⟨k, nm, na, args, np, nr, rl, rows, ln, cl⟩ = (decide (k = 0) && (decide (nm.size = 0) && (decide (na = 0) && (decide (np = 0) && (decide (nr = 0) && (decide (ln = 0) && decide (cl = 0))))))) := by
  show (decide (ln = 0) && (decide (cl = 0) && (decide (k = 0) && (decide (nm.size = 0) && (decide (na = 0) && (decide (np = 0) && decide (nr = 0))))))) = _
  generalize decide (ln = 0) = x1
  generalize decide (cl = 0) = x2
  generalize decide (k = 0) = x3
  generalize decide (nm.size = 0) = x4
  generalize decide (na = 0) = x5
  generalize decide (np = 0) = x6
  generalize decide (nr = 0) = x7
  cases x1 <;> cases x2 <;> cases x3 <;> cases x4 <;> cases x5 <;> cases x6 <;> cases x7 <;> rfl
end Go.Proofs.YtgmndjbicandfaaDoor
