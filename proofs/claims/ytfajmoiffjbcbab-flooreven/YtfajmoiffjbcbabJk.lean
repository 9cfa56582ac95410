/-
  Contracts of Of, List and the reference's; two lists alike.
-/
import Derived.Test.YtfajmoiffjbcbabJj
namespace Go.Proofs.Ytfajmoiffjbcbab
open Go.RowKit
/-- All are numbers that a set may have. -/
def okq (q : Nat → Int) (m : Nat) : Prop := ∀ i, i < m → 0 ≤ q i ∧ q i < 64
/-- The same, by looking at each. -/
def okb (q : Nat → Int) : Nat → Bool
  | 0 => true
  | m + 1 => okb q m && (decide (0 ≤ q m) && decide (q m < 64))
theorem okb_iff (q : Nat → Int) : ∀ m, okb q m = true ↔ okq q m := by
  intro m
  induction m with
  | zero => exact ⟨fun _ i hi => by omega, fun _ => rfl⟩
  | succ m ih =>
    constructor
    · intro h i hi
      have h1 : okb q m = true ∧ (0 ≤ q m ∧ q m < 64) := by simpa [okb] using h
      by_cases e : i = m
      · rw [e]; exact h1.2
      · exact ih.1 h1.1 i (by omega)
    · intro h
      have h1 : okb q m = true := ih.2 (fun i hi => h i (by omega))
      have h2 := h m (by omega)
      simp [okb, h1, h2.1, h2.2]
/-- What Of answers. -/
def ofa (q : Nat → Int) (m : Nat) : Array Value := if okb q m = true then #[.int .u64 ((ofs (fun i => (q i).toNat) m : Nat) : Int), .int .i64 0] else #[.int .u64 0, .int .i64 2]
theorem ofa_yes {q : Nat → Int} {m : Nat} (h : okq q m) : ofa q m = #[.int .u64 ((ofs (fun i => (q i).toNat) m : Nat) : Int), .int .i64 0] := if_pos ((okb_iff q m).2 h)
theorem ofa_no {q : Nat → Int} {m j : Nat} (hj : j < m) (h : ¬ (0 ≤ q j ∧ q j < 64)) : ofa q m = #[.int .u64 0, .int .i64 2] := if_neg (fun o => h ((okb_iff q m).1 o j hj))
theorem okq_step {q : Nat → Int} {j : Nat} (h : okq q j) (hj : 0 ≤ q j ∧ q j < 64) : okq q (j + 1) := fun i hi => by
  by_cases e : i = j
  · rw [e]; exact hj
  · exact h i (by omega)
theorem ofs_64 {q : Nat → Int} {m : Nat} (h : okq q m) : ofs (fun i => (q i).toNat) m < 18446744073709551616 := ofs_lt (n := 64) (fun i hi => by have := h i hi; show (q i).toNat < 64; omega)
end Go.Proofs.Ytfajmoiffjbcbab
