/-
  Contracts of the polynomials' reference: Roots, FromRoots.
-/
import Derived.Test.YthpjedoolbfjfabRf
namespace Go.Proofs.Ythpjedoolbfjfab
open Go.RowKit
/-- The cells of a list of bytes. -/
def bsl (l : List Nat) : List Value := l.map fun x : Nat => Value.int .u8 (x : Int)
theorem row_bsl (l : List Nat) : (row l.length (fun i => l.getD i 0)).toList = bsl l := by
  apply List.ext_getElem
  · simp [row, bsl]
  · intro i h1 h2
    simp [bsl] at h2
    simp [row, bsl, List.getD, h2]
theorem lk_list {w : World} {base : Nat} {v : Value} {l : List Nat} (h : w.ownsRow base 5 1 v l.length (bsl l)) (hl : ∀ x ∈ l, x < 256) (hn : l.length ≤ 140737488351232) : ∃ a c, v = .slice a l.length c ∧ Lk w a l.length c (fun i => l.getD i 0) ∧ From base a := by
  rw [← row_bsl] at h
  refine own_lk h (fun i hi => ?_) hn
  rw [show l.getD i 0 = l[i] by simp [List.getD, hi]]
  exact hl _ (List.getElem_mem hi)
/-- The roots below k, rising. -/
def rootsTo (f : Nat → Nat) (n k : Nat) : List Nat := (List.range k).filter fun x => decide (ev f n x = 0)
theorem rootsTo_succ (f : Nat → Nat) (n k : Nat) : rootsTo f n (k + 1) = rootsTo f n k ++ if ev f n k = 0 then [k] else [] := by
  unfold rootsTo
  rw [List.range_succ, List.filter_append]
  by_cases h : ev f n k = 0 <;> simp [h]
theorem rootsTo_len (f : Nat → Nat) (n k : Nat) : (rootsTo f n k).length ≤ k := by
  unfold rootsTo
  exact Nat.le_trans (List.length_filter_le _ _) (by simp)
theorem rootsTo_lt (f : Nat → Nat) (n k : Nat) : ∀ x ∈ rootsTo f n k, x < k := by
  intro x hx
  unfold rootsTo at hx
  simpa using (List.mem_filter.mp hx).1
end Go.Proofs.Ythpjedoolbfjfab
