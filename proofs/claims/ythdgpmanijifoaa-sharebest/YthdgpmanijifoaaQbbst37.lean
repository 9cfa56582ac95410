/-
  Stage 21: what hangs on what; termsOf, markNeeded.
  Stage 21: neededFor.
-/
import Derived.Test.YthdgpmanijifoaaQbbst00
import Derived.Test.YthdgpmanijifoaaQbbst25
set_option maxRecDepth 100000
set_option maxHeartbeats 16000000
namespace Go.Proofs.Ythdgpmanijifoaa
open Go.RowKit
/-- How many terms a value has. -/
def tn (F : Fl) (v : Nat) : Nat := if v < F.ni then 0 else F.nt (v - F.ni)
/-- The value of a term. -/
def tv (F : Fl) (v j : Nat) : Nat := (F.of (v - F.ni) j).toNat
/-- Terms are lesser values. -/
theorem MayP.term {F : Fl} (h : MayP F) {v j : Nat} (hv : v < F.ni + F.nn) (hj : j < tn F v) : F.of (v - F.ni) j = ((tv F v j : Nat) : Int) ∧ tv F v j < v ∧ F.ni ≤ v := by
 unfold tn at hj
 by_cases hlt : v < F.ni
 ·rw [if_pos hlt] at hj; omega
 ·rw [if_neg hlt] at hj
  have h1 := h.nodes (v - F.ni) (by omega) j hj
  have e : tv F v j = (F.of (v - F.ni) j).toNat := rfl
  refine ⟨by rw [e]; omega, by rw [e]; omega, by omega⟩
end Go.Proofs.Ythdgpmanijifoaa
