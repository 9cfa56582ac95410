/-
  Contracts of the program's tree: lists that are the same, part by part.
-/
import Derived.Test.YtgmndjbicandfaaDoorQnnes00
import Derived.Test.YtgmndjbicandfaaDoorQnnes41
set_option maxRecDepth 100000
set_option maxHeartbeats 16000000
namespace Go.Proofs.YtgmndjbicandfaaDoor
open Go.RowKit
def alB (B : Nat → Bool) : Nat → Bool
 | 0 => true
 | n + 1 => alB B n && B n
theorem alB_stop {B : Nat → Bool} {n i : Nat} (h : alB B (i + 1) = false) (hi : i < n) : alB B n = false := by
 obtain ⟨j, rfl⟩ : ∃ j, n = i + 1 + j := ⟨n - (i + 1), by omega⟩
 clear hi
 induction j with
 | zero => exact h
 | succ j ih => show (alB B (i + 1 + j) && _) = false; rw [ih]; rfl
theorem alB_iff {B : Nat → Bool} : ∀ {n : Nat}, alB B n = true ↔ ∀ i, i < n → B i = true := by
 intro n
 induction n with
 | zero => exact ⟨fun _ i hi => absurd hi (Nat.not_lt_zero i), fun _ => rfl⟩
 | succ n ih =>
  show (alB B n && B n) = true ↔ _
  rw [Bool.and_eq_true, ih]
  refine ⟨fun h i hi => ?_, fun h => ⟨fun i hi => h i (by omega), h n (by omega)⟩⟩
  by_cases e : i = n
  ·rw [e]; exact h.2
  ·exact h.1 i (by omega)
end Go.Proofs.YtgmndjbicandfaaDoor
