/-
  Contracts of the sets' reference: Full, pascal, Choose, Upto.
-/
import Derived.Test.YtfajmoiffjbcbaaRJh
import Derived.Test.YtfajmoiffjbcbaaRPk
namespace Go.Proofs.YtfajmoiffjbcbaaR
open Go.RowKit
theorem ones_step {i : Nat} : (2 ^ i - 1) ||| 2 ^ i = 2 ^ (i + 1) - 1 := by
  have := Nat.two_pow_pos i
  rw [or_top (by omega), Nat.pow_succ]
  omega
/-- A row of Pascal's triangle, from place j on already the next one. -/
def pas (i j t : Nat) : Nat := if j < t then bin (i + 1) t else bin i t
theorem pas_step {i j : Nat} (t : Nat) : (if t = j + 1 then pas i (j + 1) (j + 1) + pas i (j + 1) j else pas i (j + 1) t) = pas i j t := by
  unfold pas
  by_cases e : t = j + 1
  · subst e
    rw [if_pos rfl, if_neg (by omega), if_neg (by omega), if_pos (by omega), bin_succ]
  · rw [if_neg e]
    by_cases h : j + 1 < t
    · rw [if_pos h, if_pos (by omega)]
    · rw [if_neg h, if_neg (by omega)]
theorem pas_zero (i t : Nat) : pas i 0 t = bin (i + 1) t := by
  unfold pas
  by_cases h : 0 < t
  · rw [if_pos h]
  · obtain rfl : t = 0 := by omega
    rw [if_neg h, bin_zero, bin_zero]
theorem pas_top (i k t : Nat) (ht : t ≤ k) : pas i k t = bin i t := if_neg (by omega)
theorem pas_small {i j t : Nat} (hi : i < 64) : pas i j t ≤ 1832624140942590534 := by
  unfold pas
  split
  · exact bin_small (by omega)
  · exact bin_small (by omega)
end Go.Proofs.YtfajmoiffjbcbaaR
