/-
  Contracts of the tree's reference: expr, exprs, MayExpr, Deep.
-/
import Derived.Test.YtemhodenkgngmaaDoorQkkwn02
import Derived.Test.YtemhodenkgngmaaDoorQkkwn00
set_option maxRecDepth 100000
set_option maxHeartbeats 16000000
namespace Go.Proofs.YtemhodenkgngmaaDoor
open Go.RowKit
theorem qah {x : ByteArray} (h : x.size = 0) : x = ⟨#[]⟩ := by
 obtain ⟨⟨l⟩⟩ := x
 cases l with
 | nil => rfl
 | cons a l => simp [ByteArray.size] at h
theorem qem {d : Nat} {T : Xt} {left : Int} (h : left - 1 < 0) : xleft (d + 1) T left = -1 := by
 show (if left - 1 < 0 then _ else _) = _
 rw [if_pos h]
end Go.Proofs.YtemhodenkgngmaaDoor
