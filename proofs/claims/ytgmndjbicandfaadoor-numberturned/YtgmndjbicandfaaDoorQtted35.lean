/-
  Stage 12: what an expression with y in a name's place comes to.
-/
import Derived.Test.YtgmndjbicandfaaDoorQtted00
import Derived.Test.YtgmndjbicandfaaDoorQtted34
set_option maxRecDepth 100000
set_option maxHeartbeats 16000000
namespace Go.Proofs.YtgmndjbicandfaaDoor
open Go.RowKit
theorem qd4 {R R' : Nat → Vt} {n : Nat} (h : ∀ j, j < n → R j = R' j) : xflt R n = xflt R' n := by
 induction n with
 | zero => rfl
 | succ n ih =>
  show (match xflt R n with | some r => some r | none => if (R n).c = 0 then none else some (R n)) = (match xflt R' n with | some r => some r | none => if (R' n).c = 0 then none else some (R' n))
  rw [ih (fun j hj => h j (by omega)), h n (by omega)]
theorem qbd {R R' : Nat → Vt} {n : Nat} (h : ∀ j, j < n → (R j).v = (R' j).v) (j : Nat) : xprt R n j = xprt R' n j := by
 unfold xprt
 split
 ·rename_i g; exact h j g
 ·rfl
end Go.Proofs.YtgmndjbicandfaaDoor
