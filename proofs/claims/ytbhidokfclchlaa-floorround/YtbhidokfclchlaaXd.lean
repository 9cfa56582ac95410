/-
  How many choices of k of n there are.
-/
import Derived.Test.YtbhidokfclchlaaXc
namespace Go.Proofs.Ytbhidokfclchlaa
def bin : Nat → Nat → Nat
  | _, 0 => 1
  | 0, _ + 1 => 0
  | n + 1, k + 1 => bin n (k + 1) + bin n k
theorem bin_zero (n : Nat) : bin n 0 = 1 := by cases n <;> rfl
theorem bin_none (k : Nat) : bin 0 (k + 1) = 0 := rfl
theorem bin_succ (n k : Nat) : bin (n + 1) (k + 1) = bin n (k + 1) + bin n k := rfl
theorem bin_above : ∀ n k, n < k → bin n k = 0 := by
  intro n
  induction n with
  | zero => intro k h; obtain ⟨j, rfl⟩ : ∃ j, k = j + 1 := ⟨k - 1, by omega⟩; rfl
  | succ n ih =>
    intro k h
    obtain ⟨j, rfl⟩ : ∃ j, k = j + 1 := ⟨k - 1, by omega⟩
    rw [bin_succ, ih _ (by omega), ih _ (by omega)]
theorem bin_self : ∀ n, bin n n = 1 := by
  intro n
  induction n with
  | zero => rfl
  | succ n ih => rw [bin_succ, ih, bin_above n (n + 1) (by omega)]
theorem bin_pos : ∀ n k, k ≤ n → 0 < bin n k := by
  intro n
  induction n with
  | zero => intro k h; obtain rfl : k = 0 := (by omega); exact Nat.one_pos
  | succ n ih =>
    intro k h
    cases k with
    | zero => exact Nat.one_pos
    | succ k => rw [bin_succ]; have := ih k (by omega); omega
theorem bin_step : ∀ n k, bin n (k + 1) * (k + 1) = bin n k * (n - k) := by
  intro n
  induction n with
  | zero => intro k; rw [bin_none, Nat.zero_mul, Nat.zero_sub, Nat.mul_zero]
  | succ n ih =>
    intro k
    cases k with
    | zero =>
      rw [bin_succ, bin_zero, bin_zero]
      have := ih 0
      rw [bin_zero] at this
      omega
    | succ k =>
      rw [bin_succ, bin_succ n k, Nat.add_mul]
      have h1 := ih (k + 1)
      have h2 := ih k
      rw [h1]
      have h3 : bin n (k + 1) * (k + 1 + 1) = bin n k * (n - k) + bin n (k + 1) := by rw [Nat.mul_add, Nat.mul_one, h2]
      rw [h3, show n + 1 - (k + 1) = n - k by omega, Nat.add_mul]
      by_cases h : k + 1 ≤ n
      · have : bin n (k + 1) * (n - k) = bin n (k + 1) * (n - (k + 1)) + bin n (k + 1) := by
          rw [show n - k = n - (k + 1) + 1 by omega, Nat.mul_add, Nat.mul_one]
        omega
      · rw [bin_above n (k + 1) (by omega), Nat.zero_mul, Nat.zero_mul]
        omega
theorem bin_symm : ∀ n k, k ≤ n → bin n k = bin n (n - k) := by
  intro n
  induction n with
  | zero => intro k h; obtain rfl : k = 0 := (by omega); rfl
  | succ n ih =>
    intro k h
    cases k with
    | zero => rw [bin_zero, Nat.sub_zero, bin_self]
    | succ k =>
      by_cases e : k = n
      · subst e
        rw [bin_self, Nat.sub_self, bin_zero]
      · rw [show n + 1 - (k + 1) = n - (k + 1) + 1 by omega, bin_succ, bin_succ, ih (k + 1) (by omega), ih k (by omega), show n - k = n - (k + 1) + 1 by omega]
        omega
/-- Cut off at M. -/
theorem min_sum (M a b : Nat) : min M (min M a + min M b) = min M (a + b) := by omega
end Go.Proofs.Ytbhidokfclchlaa
