/-
  Stage 21: numbersAnew, renumbered.
  Stage 21: what Trim's loops keep.
  Stage 21: Trim, of the program (made by gen34f.py).
  Stage 21: the trimmed flow may be.
-/
import Derived.Test.YthdgpmanijifoaaQbbst00
import Derived.Test.YthdgpmanijifoaaQbbst37
import Derived.Test.YthdgpmanijifoaaQbbst33
set_option maxRecDepth 100000
set_option maxHeartbeats 16000000
namespace Go.Proofs.Ythdgpmanijifoaa
open Go.RowKit
theorem InP.ge {n : Nat} {q : Nat → Int} (h : InP n q) : ∀ i, i < n → (i : Int) ≤ q i := by
 intro i
 induction i with
 | zero => intro hi; exact (h 0 hi).1
 | succ i ih =>
  intro hi
  have h1 := ih (by omega)
  have h2 := (h (i + 1) hi).2.2 (by omega)
  rw [Nat.add_sub_cancel] at h2
  omega
theorem InP.le {n : Nat} {q : Nat → Int} (h : InP n q) : n ≤ 64 := by
 by_cases h0 : n = 0
 ·omega
 ·have h1 := h.ge (n - 1) (by omega)
  have h2 := (h (n - 1) (by omega)).2.1
  omega
open Go.RowKit
theorem MayP.outLt {F : Fl} (hM : MayP F) {o : Nat} (ho : o < F.no) : (F.out o).toNat < F.ni + F.nn := by
 have := hM.outs o ho
 omega
theorem InP.lt {n : Nat} {q : Nat → Int} (h : InP n q) : ∀ j i, i < j → j < n → q i < q j := by
 intro j
 induction j with
 | zero => intro i hi; omega
 | succ j ih =>
  intro i hi hj
  have h1 := (h (j + 1) hj).2.2 (by omega)
  rw [Nat.add_sub_cancel] at h1
  by_cases e : i = j
  ·rw [e]; exact h1
  ·have := ih i (by omega) (by omega); omega
end Go.Proofs.Ythdgpmanijifoaa
