/-
  Contracts of the program's tree: which shapes may be.
-/
import Derived.Test.YtgmndjbicandfaaDoorDi
import Derived.Laws.StructEq
namespace Go.Proofs.YtgmndjbicandfaaDoor
open Go.RowKit
/-- Are the rows' lengths right? -/
def rlB (rl : Nat → Nat) : Nat → Bool
  | 0 => true
  | n + 1 => rlB rl n && decide (1 ≤ rl n ∧ rl n ≤ 64)
theorem rlB_stop {rl : Nat → Nat} {n i : Nat} (h : rlB rl (i + 1) = false) (hi : i < n) : rlB rl n = false := by
  obtain ⟨j, rfl⟩ : ∃ j, n = i + 1 + j := ⟨n - (i + 1), by omega⟩
  clear hi
  induction j with
  | zero => exact h
  | succ j ih => show (rlB rl (i + 1 + j) && _) = false; rw [ih]; rfl
/-- Has a shape what its kind asks for? -/
def fsB (l : Ls) : Bool := skk l.k && ((!decide (l.nm.size = 0)) == decide (l.k = 1)) && (decide (0 < l.nr) == skr l.k) && decide (l.na = ska l.k) && decide (l.np = skp l.k) && (!decide (l.k = 1) || isN l.nm) && decide (l.nr ≤ 64)
theorem fs_want (l : Ls) : fsB l = swant l := by
  unfold fsB swant skk skr ska skp
  obtain ⟨k, nm, na, args, np, nr, rl, rows, ln, cl⟩ := l
  show (decide (1 ≤ k ∧ k ≤ 8) && ((!decide (nm.size = 0)) == decide (k = 1)) && (decide (0 < nr) == decide (k = 8)) && decide (na = if k = 4 ∨ k = 5 then 3 else if k = 2 ∨ k = 3 then 2 else 0) && decide (np = if k = 6 ∨ k = 7 then 2 else 0) && (!decide (k = 1) || isN nm) && decide (nr ≤ 64)) = (if k = 1 then isN nm && (decide (na = 0) && (decide (np = 0) && decide (nr = 0))) else decide (nm.size = 0) && (if k = 2 ∨ k = 3 then decide (na = 2) && (decide (np = 0) && decide (nr = 0)) else if k = 4 ∨ k = 5 then decide (na = 3) && (decide (np = 0) && decide (nr = 0)) else if k = 6 ∨ k = 7 then decide (na = 0) && (decide (np = 2) && decide (nr = 0)) else if k = 8 then decide (na = 0) && (decide (np = 0) && (decide (1 ≤ nr) && decide (nr ≤ 64))) else false))
  have hN : isN nm = true → nm.size ≠ 0 := fun h => by have := (isN_iff.1 h).pos; omega
  generalize isN nm = b at *
  generalize nm.size = s at *
  by_cases h1 : k = 1
  · subst h1
    cases b with
    | true =>
      have := hN rfl
      by_cases g1 : na = 0 <;> by_cases g2 : np = 0 <;> by_cases g3 : nr = 0 <;> simp [g1, g2, g3, this]
    | false => simp
  by_cases h23 : k = 2 ∨ k = 3
  · have a1 : 1 ≤ k ∧ k ≤ 8 := by omega
    have a2 : ¬ k = 8 := by omega
    have a3 : ¬ (k = 4 ∨ k = 5) := by omega
    have a4 : ¬ (k = 6 ∨ k = 7) := by omega
    by_cases g0 : s = 0 <;> by_cases g1 : na = 2 <;> by_cases g2 : np = 0 <;> by_cases g3 : nr = 0 <;> simp [h1, h23, a1, a2, a3, a4, g0, g1, g2, g3] <;> omega
  by_cases h45 : k = 4 ∨ k = 5
  · have a1 : 1 ≤ k ∧ k ≤ 8 := by omega
    have a2 : ¬ k = 8 := by omega
    have a4 : ¬ (k = 6 ∨ k = 7) := by omega
    by_cases g0 : s = 0 <;> by_cases g1 : na = 3 <;> by_cases g2 : np = 0 <;> by_cases g3 : nr = 0 <;> simp [h1, h23, h45, a1, a2, a4, g0, g1, g2, g3] <;> omega
  by_cases h67 : k = 6 ∨ k = 7
  · have a1 : 1 ≤ k ∧ k ≤ 8 := by omega
    have a2 : ¬ k = 8 := by omega
    by_cases g0 : s = 0 <;> by_cases g1 : na = 0 <;> by_cases g2 : np = 2 <;> by_cases g3 : nr = 0 <;> simp [h1, h23, h45, h67, a1, a2, g0, g1, g2, g3] <;> omega
  by_cases h8 : k = 8
  · subst h8
    by_cases g0 : s = 0 <;> by_cases g1 : na = 0 <;> by_cases g2 : np = 0 <;> by_cases g3 : nr = 0 <;> simp [g0, g1, g2, g3]
    all_goals by_cases g4 : nr ≤ 64 <;> simp [g4] <;> omega
  · have a1 : ¬ (1 ≤ k ∧ k ≤ 8) := by omega
    simp [h1, h23, h45, h67, h8, a1]
end Go.Proofs.YtgmndjbicandfaaDoor
