/-
  Contracts of the matrices' reference: Row, Same.
-/
import Derived.Test.YtkffkhlaljeimaaQmmys00
import Derived.Test.YtkffkhlaljeimaaQmmys20
set_option maxRecDepth 100000
set_option maxHeartbeats 16000000
namespace Go.Proofs.Ytkffkhlaljeimaa
open Go.RowKit
/-- Numbers of a matrix that is right. -/
structure Rt (r c n : Nat) : Prop where
 r64 : r ≤ 64
 c64 : c ≤ 64
 len : r * c = n
theorem Rt.p {r c n : Nat} (h : Rt r c n) : RightP r c n := ⟨by omega, by have := h.r64; omega, by omega, by have := h.c64; omega, by rw [← h.len]; simp⟩
theorem Rt.le {r c n : Nat} (h : Rt r c n) : n ≤ 4096 := by rw [← h.len]; exact Nat.mul_le_mul h.r64 h.c64
theorem Rt.at {r c n i j : Nat} (h : Rt r c n) (hi : i < r) (hj : j < c) : i * c + j < n := by
 rw [← h.len]
 exact Nat.lt_of_lt_of_le (show i * c + j < (i + 1) * c by rw [Nat.add_mul, Nat.one_mul]; omega) (Nat.mul_le_mul_right c hi)
end Go.Proofs.Ytkffkhlaljeimaa
