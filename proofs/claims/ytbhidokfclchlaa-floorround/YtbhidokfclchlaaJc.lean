/-
  Contracts of the sets' plain calls: Has, first, Full, isSetOf, portion.
-/
import Derived.Test.YtbhidokfclchlaaJb
namespace Go.Proofs.Ytbhidokfclchlaa
open Go.RowKit
theorem j_cast (s i : Nat) : (s : Int) / 2 ^ i = ((s / 2 ^ i : Nat) : Int) := by simp
theorem j_shr (s i : Nat) (hs : s < 18446744073709551616) : (s : Int) / 2 ^ min i 64 = ((s / 2 ^ i : Nat) : Int) := by
  rw [j_cast]
  by_cases h : i ≤ 64
  · rw [Nat.min_eq_left h]
  · rw [Nat.min_eq_right (by omega), Nat.div_eq_of_lt (show s < 2 ^ 64 from hs), Nat.div_eq_of_lt (Nat.lt_of_lt_of_le (show s < 2 ^ 64 from hs) (Nat.pow_le_pow_right (by decide) (by omega)))]
theorem j_div_lt (s i : Nat) (hs : s < 18446744073709551616) : s / 2 ^ i < 18446744073709551616 := Nat.lt_of_le_of_lt (Nat.div_le_self _ _) hs
theorem j_bit (s i : Nat) (hs : s < 18446744073709551616) : bits .and .u64 ((s / 2 ^ i : Nat) : Int) 1 = ((bt s i : Nat) : Int) := by
  have h := u64_and_nat (s / 2 ^ i) 1 (j_div_lt s i hs) (by decide)
  rw [Nat.and_one_is_mod] at h
  exact h
theorem j_bit' (s i : Nat) (hs : s < 18446744073709551616) : bits .and .u64 ((s : Int) / 2 ^ i) 1 = ((bt s i : Nat) : Int) := by rw [j_cast, j_bit s i hs]
theorem j_pow_lt {i : Nat} (h : i < 64) : 2 ^ i < 18446744073709551616 := Nat.pow_lt_pow_right (a := 2) (by decide) h
theorem j_pow (i : Nat) (h : i < 64) : IntKind.u64.wrap (2 ^ i) = ((2 ^ i : Nat) : Int) := by
  have h1 := j_pow_lt h
  have e : ((2 : Int) ^ i) = ((2 ^ i : Nat) : Int) := by simp
  rw [e, IntKind.wrap_u64]
  generalize 2 ^ i = z at h1 ⊢
  omega
theorem j_first (i : Nat) (h : i ≤ 64) : IntKind.u64.wrap (IntKind.u64.wrap (2 ^ i) - 1) = ((2 ^ i - 1 : Nat) : Int) := by
  by_cases h1 : i < 64
  · have h2 := j_pow_lt h1
    have h3 := Nat.two_pow_pos i
    rw [j_pow i h1, IntKind.wrap_u64]
    generalize 2 ^ i = z at h2 h3
    omega
  · obtain rfl : i = 64 := by omega
    decide
theorem j_bool {n : Nat} : ((n : Int) == 1) = decide (n = 1) := by
  by_cases h : n = 1
  · subst h; rfl
  · rw [decide_eq_false h]
    simp only [beq_eq_false_iff_ne, ne_eq]
    omega
theorem j_portion {a b c r : Nat} (ha : a ≤ 1832624140942590534) (hb : b ≤ 64) (hc : c ≤ 65) (hc0 : 0 < c) (hr : r ≤ 1832624140942590534) (h : a * b = r * c) :
    wrap64 (wrap64 (wrap64 ((a : Int) / (c : Int)) * (b : Int)) + wrap64 ((wrap64 ((a : Int) % (c : Int) * (b : Int))).tdiv (c : Int))) = (r : Int) := by
  have h1 := portion_eq hc0 h
  have h2 : a / c ≤ a := Nat.div_le_self _ _
  have h3 : a % c < c := Nat.mod_lt _ hc0
  have h4 : a % c * b ≤ 65 * 64 := Nat.mul_le_mul (by omega) hb
  have e1 : (a : Int) / (c : Int) = ((a / c : Nat) : Int) := by simp
  have e2 : (a : Int) % (c : Int) = ((a % c : Nat) : Int) := by simp
  rw [e1, e2]
  generalize a / c = q at *
  generalize a % c = m at *
  have w1 : wrap64 (q : Int) = (q : Int) := IntWalk.wrap64_in _ (by omega)
  have e3 : (m : Int) * (b : Int) = ((m * b : Nat) : Int) := rfl
  have e4 : (q : Int) * (b : Int) = ((q * b : Nat) : Int) := rfl
  rw [w1, e3, e4]
  clear e1 e2 e3 e4 w1 h2 h3 h
  generalize m * b = x at *
  generalize q * b = y at *
  have w2 : wrap64 (x : Int) = (x : Int) := IntWalk.wrap64_in _ (by omega)
  have e5 : (x : Int).tdiv (c : Int) = ((x / c : Nat) : Int) := rfl
  rw [w2, e5]
  clear w2 e5
  generalize x / c = z at *
  have w3 : wrap64 (y : Int) = (y : Int) := IntWalk.wrap64_in _ (by omega)
  have w4 : wrap64 (z : Int) = (z : Int) := IntWalk.wrap64_in _ (by omega)
  rw [w3, w4, IntWalk.wrap64_in _ (by omega)]
  omega
end Go.Proofs.Ytbhidokfclchlaa
