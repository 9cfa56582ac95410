/-
  Contracts of copyOf, Sum, Dot.
-/
import Derived.Test.YtkfnedpnkeacpaaQaaes00
import Derived.Test.YtkfnedpnkeacpaaQaaes04
import Derived.Laws.CopyOwn
set_option maxRecDepth 100000
set_option maxHeartbeats 16000000
namespace Go.Proofs.Ytkfnedpnkeacpaa
open Go.RowKit
theorem qc9 : (Try.prog.info? 5).map (fun i => (i.zero, i.size, i.bytes)) = some (some (.int .u8 0), 1, 1) := by kernel_rfl
theorem qba (n : Nat) (f : Nat → Nat) (j : Nat) (v : Value) (h : (row n f).toList[j]? = some v) : j < n ∧ v = .int .u8 (f j : Nat) := by
 have hj : j < (row n f).toList.length := (List.getElem?_eq_some_iff.1 h).1
 have hj' : j < n := by simpa [qa3] using hj
 refine ⟨hj', ?_⟩
 have e := qcr n f j hj'
 rw [← Array.getElem?_toList] at e
 rw [e] at h
 simpa using h.symm
theorem qea {w1 : World} {base g n : Nat} (h : w1.ownsRow base 5 1 (.slice (some ⟨g, 0, none⟩) n n) n (madeCells (Value.int .u8 0).cells (n * 1)).toList) : RowAt w1 g 5 n (fun _ => 0) := by
 refine qe8 h ?_
 rw [Nat.mul_one]
 exact congrArg Array.toList (qd4 n)
theorem row_step {wr : World} {g k n : Nat} {t : TypeId} {f f' : Nat → Nat} (h : RowAt wr g t n (fun j => if j < k then f' j else f j)) :
  RowAt (wr.setCell ⟨g, k, none⟩ (.int .u8 (f' k : Nat))) g t n (fun j => if j < k + 1 then f' j else f j) :=
 (h.set k (f' k)).congr (by
  intro i _
  by_cases e : i = k
  ·subst e; simp
  ·by_cases e2 : i < k
   ·simp [e, e2, show i < k + 1 by omega]
   ·simp [e, e2, show ¬ i < k + 1 by omega])
theorem qd5 {wr : World} {g k n : Nat} {t : TypeId} {f f' : Nat → Nat} (h : RowAt wr g t n (fun j => if j < k then f' j else f j)) (hk : n ≤ k) : RowAt wr g t n f' :=
 h.congr (by intro i hi; simp [show i < k by omega])
theorem qd6 {wr : World} {g n : Nat} {t : TypeId} {f f' : Nat → Nat} (h : RowAt wr g t n f) : RowAt wr g t n (fun j => if j < 0 then f' j else f j) :=
 h.congr (by intro i hi; simp)
theorem qd7 {wr : World} {g k n : Nat} {t : TypeId} {f f' : Nat → Nat} (h : RowAt wr g t n (fun j => if j < k then f' j else f j)) (hk : k < n) : wr.cell? ⟨g, k, none⟩ = some (.int .u8 (f k : Nat)) := by
 have := h.cell k hk
 simpa using this
end Go.Proofs.Ytkfnedpnkeacpaa
