/-
  Contracts of the reference: First.
  Contract of the reference: Kernel.
  Contract of the reference: Kernel.
-/
import Derived.Test.YtlmanliinncdiaaGreatQggps00
import Derived.Test.YtlmanliinncdiaaGreatQggps23
set_option maxRecDepth 100000
set_option maxHeartbeats 16000000
namespace Go.Proofs.YtlmanliinncdiaaGreat
open Go.RowKit
/-- Column j is free. -/
def fre (p : Nat → Nat) (k j : Nat) : Bool := !pvt p k j
/-- The list of a free column f, as far as pivot i. -/
def kvp (R : Nat → Nat → Nat) (p : Nat → Nat) (f i j : Nat) : Nat := if j = f then 1 else pp p i (fun t => R t f) j
theorem kvp_zero (R : Nat → Nat → Nat) (p : Nat → Nat) (f j : Nat) : kvp R p f 0 j = if j = f then 1 else 0 := rfl
theorem kvp_step {R : Nat → Nat → Nat} {p : Nat → Nat} {k f i : Nat} (up : ∀ i t, i < t → t < k → p i < p t) (hi : i < k) (hf : p i ≠ f) (j : Nat) : (if j = p i then R i f else kvp R p f i j) = kvp R p f (i + 1) j := by
 unfold kvp
 by_cases e : j = p i
 ·rw [if_pos e, if_neg (by omega)]
  have h1 : pp p (i + 1) (fun t => R t f) j = R i f := by rw [e]; exact pp_at (fun a b h1 h2 => up a b h1 (by omega)) _ (by omega)
  rw [h1]
 ·rw [if_neg e]
  by_cases e2 : j = f
  ·rw [if_pos e2, if_pos e2]
  ·rw [if_neg e2, if_neg e2]
   show _ = pp p i (fun t => R t f) j ^^^ (if p i = j then R i f else 0)
   rw [if_neg (fun h => e h.symm), Nat.xor_zero]
end Go.Proofs.YtlmanliinncdiaaGreat
