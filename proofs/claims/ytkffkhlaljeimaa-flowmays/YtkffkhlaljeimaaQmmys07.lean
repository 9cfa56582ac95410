/-
  Contracts of copyOf, Sum, Dot.
-/
import Derived.Test.YtkffkhlaljeimaaQmmys00
import Derived.Test.YtkffkhlaljeimaaQmmys06
import Derived.Laws.CopyOwn
set_option maxRecDepth 100000
set_option maxHeartbeats 16000000
namespace Go.Proofs.Ytkffkhlaljeimaa
open Go.RowKit
theorem info8 : (Try.prog.info? 5).map (fun i => (i.zero, i.size, i.bytes)) = some (some (.int .u8 0), 1, 1) := by kernel_rfl
theorem qaf (n : Nat) (f : Nat → Nat) (j : Nat) (v : Value) (h : (row n f).toList[j]? = some v) : j < n ∧ v = .int .u8 (f j : Nat) := by
 have hj : j < (row n f).toList.length := (List.getElem?_eq_some_iff.1 h).1
 have hj' : j < n := by simpa [qaq] using hj
 refine ⟨hj', ?_⟩
 have e := qb2 n f j hj'
 rw [← Array.getElem?_toList] at e
 rw [e] at h
 simpa using h.symm
end Go.Proofs.Ytkffkhlaljeimaa
