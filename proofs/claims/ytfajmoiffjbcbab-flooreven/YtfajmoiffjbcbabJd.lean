/-
  How many bits are set: math/bits.OnesCount64, and Count.
-/
import Derived.Test.YtfajmoiffjbcbabJc
namespace Go.Proofs.Ytfajmoiffjbcbab
open Go.RowKit
theorem and_low (b x y : Nat) : x &&& y = ((x % 2 ^ b) &&& (y % 2 ^ b)) + 2 ^ b * (x / 2 ^ b &&& y / 2 ^ b) := by
  rw [← Nat.and_mod_two_pow, ← Nat.and_div_two_pow, Nat.mod_add_div]
def sp1 : Nat → Nat | 0 => 0 | k + 1 => 1 + 4 * sp1 k
def sp2 : Nat → Nat | 0 => 0 | k + 1 => 3 + 16 * sp2 k
def sp3 : Nat → Nat | 0 => 0 | k + 1 => 15 + 256 * sp3 k
theorem and_sp1 (k z : Nat) : z &&& sp1 (k + 1) = z % 2 + 4 * (z / 4 &&& sp1 k) := by
  show z &&& (1 + 4 * sp1 k) = _
  have h := and_low 2 z (1 + 4 * sp1 k)
  rw [show (2 : Nat) ^ 2 = 4 from rfl, show (1 + 4 * sp1 k) % 4 = 1 by omega, show (1 + 4 * sp1 k) / 4 = sp1 k by omega, Nat.and_one_is_mod] at h
  omega
theorem and_sp2 (k z : Nat) : z &&& sp2 (k + 1) = z % 4 + 16 * (z / 16 &&& sp2 k) := by
  show z &&& (3 + 16 * sp2 k) = _
  have h := and_low 4 z (3 + 16 * sp2 k)
  have h2 := Nat.and_two_pow_sub_one_eq_mod (z % 16) 2
  rw [show (2 : Nat) ^ 2 - 1 = 3 from rfl] at h2
  rw [show (2 : Nat) ^ 4 = 16 from rfl, show (3 + 16 * sp2 k) % 16 = 3 by omega, show (3 + 16 * sp2 k) / 16 = sp2 k by omega, h2] at h
  omega
theorem and_sp3 (k z : Nat) : z &&& sp3 (k + 1) = z % 16 + 256 * (z / 256 &&& sp3 k) := by
  show z &&& (15 + 256 * sp3 k) = _
  have h := and_low 8 z (15 + 256 * sp3 k)
  have h2 := Nat.and_two_pow_sub_one_eq_mod (z % 256) 4
  rw [show (2 : Nat) ^ 4 - 1 = 15 from rfl] at h2
  rw [show (2 : Nat) ^ 8 = 256 from rfl, show (15 + 256 * sp3 k) % 256 = 15 by omega, show (15 + 256 * sp3 k) / 256 = sp3 k by omega, h2] at h
  omega
/-- The first step: each pair of bits becomes their sum. -/
def st1 (k x : Nat) : Nat := (x / 2 &&& sp1 k) + (x &&& sp1 k)
def st2 (k x : Nat) : Nat := (st1 (2 * k) x / 4 &&& sp2 k) + (st1 (2 * k) x &&& sp2 k)
def st3 (k x : Nat) : Nat := (st2 (2 * k) x / 16 + st2 (2 * k) x) &&& sp3 k
theorem st1_step (k x : Nat) : st1 (k + 1) x = cn x 2 + 4 * st1 k (x / 4) := by
  unfold st1
  rw [and_sp1, and_sp1, show x / 2 / 4 = x / 4 / 2 by omega]
  show _ = x % 2 + (x / 2 % 2 + 0) + _
  omega
theorem cn_four (x : Nat) : cn x 4 = cn x 2 + cn (x / 4) 2 := cn_split 2 2 x
theorem cn_eight (x : Nat) : cn x 8 = cn x 4 + cn (x / 16) 4 := cn_split 4 4 x
theorem st2_step (k x : Nat) : st2 (k + 1) x = cn x 4 + 16 * st2 k (x / 16) := by
  unfold st2
  rw [show 2 * (k + 1) = 2 * k + 1 + 1 by omega, st1_step, st1_step, and_sp2, and_sp2, cn_four, show x / 4 / 4 = x / 16 by omega]
  have h1 := cn_le 2 x
  have h2 := cn_le 2 (x / 4)
  generalize cn x 2 = a at *
  generalize cn (x / 4) 2 = b at *
  generalize st1 (2 * k) (x / 16) = r at *
  rw [show (a + 4 * (b + 4 * r)) / 4 / 16 = r / 4 by omega, show (a + 4 * (b + 4 * r)) / 16 = r by omega]
  omega
theorem st2_zero (x : Nat) : st2 0 x = 0 := by
  show (_ &&& 0) + (_ &&& 0) = 0
  rw [Nat.and_zero, Nat.and_zero]
theorem st1_zero (x : Nat) : st1 0 x = 0 := by
  show (_ &&& 0) + (_ &&& 0) = 0
  rw [Nat.and_zero, Nat.and_zero]
theorem st3_zero (x : Nat) : st3 0 x = 0 := Nat.and_zero _
theorem st2_low (k x : Nat) : st2 k x % 16 ≤ 4 := by
  cases k with
  | zero => rw [st2_zero]; decide
  | succ k => rw [st2_step]; have := cn_le 4 x; omega
theorem st3_step (k x : Nat) : st3 (k + 1) x = cn x 8 + 256 * st3 k (x / 256) := by
  unfold st3
  rw [show 2 * (k + 1) = 2 * k + 1 + 1 by omega, st2_step, st2_step, and_sp3, cn_eight, show x / 16 / 16 = x / 256 by omega]
  have h1 := cn_le 4 x
  have h2 := cn_le 4 (x / 16)
  have h3 := st2_low (2 * k) (x / 256)
  generalize cn x 4 = a at *
  generalize cn (x / 16) 4 = b at *
  generalize st2 (2 * k) (x / 256) = r at *
  rw [show ((a + 16 * (b + 16 * r)) / 16 + (a + 16 * (b + 16 * r))) / 256 = r / 16 + r by omega]
  omega
theorem st1_small : ∀ k x, 3 * st1 k x + 2 ≤ 2 * 4 ^ k := by
  intro k
  induction k with
  | zero => intro x; rw [st1_zero]; decide
  | succ k ih => intro x; rw [st1_step, Nat.pow_succ]; have := ih (x / 4); have := cn_le 2 x; omega
theorem st2_small : ∀ k x, 15 * st2 k x + 4 ≤ 4 * 16 ^ k := by
  intro k
  induction k with
  | zero => intro x; rw [st2_zero]; decide
  | succ k ih => intro x; rw [st2_step, Nat.pow_succ]; have := ih (x / 16); have := cn_le 4 x; omega
theorem bytes_sum (x : Nat) : cn x 64 = cn x 8 + (cn (x / 256) 8 + (cn (x / 256 / 256) 8 + (cn (x / 256 / 256 / 256) 8 + (cn (x / 256 / 256 / 256 / 256) 8 + (cn (x / 256 / 256 / 256 / 256 / 256) 8 + (cn (x / 256 / 256 / 256 / 256 / 256 / 256) 8 + cn (x / 256 / 256 / 256 / 256 / 256 / 256 / 256) 8)))))) := by
  have h : ∀ l y, cn y (8 + l) = cn y 8 + cn (y / 256) l := fun l y => cn_split 8 l y
  rw [show (64 : Nat) = 8 + 56 from rfl, h, show (56 : Nat) = 8 + 48 from rfl, h, show (48 : Nat) = 8 + 40 from rfl, h, show (40 : Nat) = 8 + 32 from rfl, h, show (32 : Nat) = 8 + 24 from rfl, h, show (24 : Nat) = 8 + 16 from rfl, h, show (16 : Nat) = 8 + 8 from rfl, h]
theorem st3_form (x : Nat) : ∃ a b c d e f g h : Nat, a ≤ 8 ∧ b ≤ 8 ∧ c ≤ 8 ∧ d ≤ 8 ∧ e ≤ 8 ∧ f ≤ 8 ∧ g ≤ 8 ∧ h ≤ 8 ∧ cn x 64 = a + (b + (c + (d + (e + (f + (g + h)))))) ∧ st3 8 x = a + 256 * (b + 256 * (c + 256 * (d + 256 * (e + 256 * (f + 256 * (g + 256 * h)))))) := by
  refine ⟨_, _, _, _, _, _, _, _, cn_le 8 _, cn_le 8 _, cn_le 8 _, cn_le 8 _, cn_le 8 _, cn_le 8 _, cn_le 8 _, cn_le 8 _, bytes_sum x, ?_⟩
  rw [st3_step, st3_step, st3_step, st3_step, st3_step, st3_step, st3_step, st3_step, st3_zero, Nat.mul_zero, Nat.add_zero]
/-- The last steps add the eight bytes up. -/
theorem swar_end {X s : Nat} (H : ∃ a b c d e f g h : Nat, a ≤ 8 ∧ b ≤ 8 ∧ c ≤ 8 ∧ d ≤ 8 ∧ e ≤ 8 ∧ f ≤ 8 ∧ g ≤ 8 ∧ h ≤ 8 ∧ s = a + (b + (c + (d + (e + (f + (g + h)))))) ∧ X = a + 256 * (b + 256 * (c + 256 * (d + 256 * (e + 256 * (f + 256 * (g + 256 * h))))))) :
    ∃ Y Z W : Nat, X + X / 256 = Y ∧ Y + Y / 65536 = Z ∧ Z + Z / 4294967296 = W ∧ X < 9223372036854775808 ∧ Y < 9223372036854775808 ∧ Z < 9223372036854775808 ∧ W < 9223372036854775808 ∧ W % 128 = s := by
  obtain ⟨a, b, c, d, e, f, g, h, h1, h2, h3, h4, h5, h6, h7, h8, rfl, rfl⟩ := H
  refine ⟨(a + b) + 256 * ((b + c) + 256 * ((c + d) + 256 * ((d + e) + 256 * ((e + f) + 256 * ((f + g) + 256 * ((g + h) + 256 * h)))))),
    (a + b + c + d) + 256 * ((b + c + d + e) + 256 * ((c + d + e + f) + 256 * ((d + e + f + g) + 256 * ((e + f + g + h) + 256 * ((f + g + h) + 256 * ((g + h) + 256 * h)))))),
    (a + b + c + d + e + f + g + h) + 256 * ((b + c + d + e + f + g + h) + 256 * ((c + d + e + f + g + h) + 256 * ((d + e + f + g + h) + 256 * ((e + f + g + h) + 256 * ((f + g + h) + 256 * ((g + h) + 256 * h)))))), ?_, ?_, ?_, ?_, ?_, ?_, ?_, ?_⟩ <;> omega
theorem j_u64_add {a b c : Nat} (h : a + b = c) (hc : c < 18446744073709551616) : IntKind.u64.wrap ((a : Int) + (b : Int)) = (c : Int) := by
  rw [IntKind.wrap_u64]
  omega
end Go.Proofs.Ytfajmoiffjbcbab
