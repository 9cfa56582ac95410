/-
  Contracts of the wire's reference: ReadNum.
-/
import Derived.Test.YtlfmekjkgegclabHc
namespace Go.Proofs.Ytlfmekjkgegclab
open Go.RowKit
theorem v7_succ (f : Nat → Nat) (i : Nat) : v7 f (i + 1) = v7 f i + f i % 128 * 128 ^ i := rfl
theorem pow_7 (i : Nat) : (128 : Nat) ^ i = 2 ^ (7 * i) := by rw [Nat.pow_mul]
theorem i64_or_nat8 (a b : Nat) (ha : a < 9223372036854775808) (hb : b < 9223372036854775808) : bits .or .i64 (a : Int) (b : Int) = ((a ||| b : Nat) : Int) := by
  have hx : a ||| b < 2 ^ 63 := Nat.or_lt_two_pow (by omega) (by omega)
  show IntKind.i64.wrap ((BitVec.ofInt 64 (a : Int) ||| BitVec.ofInt 64 (b : Int)).toNat : Int) = _
  rw [BitVec.toNat_or, ofInt_i64 a ha, ofInt_i64 b hb, IntKind.wrap_i64]
  omega
/-- A further group of seven bits. -/
theorem grp_shift {m i : Nat} (hm : m < 128) (hi : i ≤ 8) : m * 2 ^ (7 * i) < 9223372036854775808 ∧ wrap64 ((m : Int) * 2 ^ (7 * i)) = ((m * 2 ^ (7 * i) : Nat) : Int) := by
  have h1 : 2 ^ (7 * i) ≤ 2 ^ 56 := Nat.pow_le_pow_right (by decide) (by omega)
  have h2 : m * 2 ^ (7 * i) ≤ 127 * 2 ^ 56 := Nat.mul_le_mul (by omega) h1
  have h3 : m * 2 ^ (7 * i) < 9223372036854775808 := by omega
  refine ⟨h3, ?_⟩
  have e : (m : Int) * 2 ^ (7 * i) = ((m * 2 ^ (7 * i) : Nat) : Int) := by simp
  rw [e, IntWalk.wrap64_in _ (by omega)]
theorem grp_or {z m i : Nat} (hz : z < 2 ^ (7 * i)) (hm : m < 128) (hi : i ≤ 8) : bits .or .i64 (z : Int) ((m * 2 ^ (7 * i) : Nat) : Int) = ((z + m * 2 ^ (7 * i) : Nat) : Int) := by
  have h1 : 2 ^ (7 * i) ≤ 2 ^ 56 := Nat.pow_le_pow_right (by decide) (by omega)
  rw [i64_or_nat8 z _ (by omega) (grp_shift hm hi).1, Nat.or_comm, Nat.mul_comm m, ← Nat.two_pow_add_eq_or_of_lt hz, Nat.add_comm]
end Go.Proofs.Ytlfmekjkgegclab
