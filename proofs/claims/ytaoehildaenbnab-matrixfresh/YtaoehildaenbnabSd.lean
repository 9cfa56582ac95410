/-
  Contracts of the matrices' reference: Row, Same.
-/
import Derived.Test.YtaoehildaenbnabSc
namespace Go.Proofs.Ytaoehildaenbnab
open Go.RowKit
/-- Numbers of a matrix that is right. -/
structure Rt (r c n : Nat) : Prop where
  r64 : r ≤ 64
  c64 : c ≤ 64
  len : r * c = n
theorem Rt.p {r c n : Nat} (h : Rt r c n) : RightP r c n := ⟨by omega, by have := h.r64; omega, by omega, by have := h.c64; omega, by rw [← h.len]; simp⟩
theorem Rt.le {r c n : Nat} (h : Rt r c n) : n ≤ 4096 := by rw [← h.len]; exact Nat.mul_le_mul h.r64 h.c64
theorem Rt.at {r c n i j : Nat} (h : Rt r c n) (hi : i < r) (hj : j < c) : i * c + j < n := by
  rw [← h.len]
  exact Nat.lt_of_lt_of_le (show i * c + j < (i + 1) * c by rw [Nat.add_mul, Nat.one_mul]; omega) (Nat.mul_le_mul_right c hi)
theorem right_rt {r c : Int} {n : Nat} (h : RightP r c n) : ∃ r' c' : Nat, r = r' ∧ c = c' ∧ Rt r' c' n := by
  obtain ⟨h1, h2, h3, h4, h5⟩ := h
  obtain ⟨r', rfl⟩ := Int.eq_ofNat_of_zero_le h1
  obtain ⟨c', rfl⟩ := Int.eq_ofNat_of_zero_le h3
  exact ⟨r', c', rfl, rfl, by omega, by omega, by rw [← Int.natCast_mul] at h5; omega⟩
end Go.Proofs.Ytaoehildaenbnab
