/-
  Stage 12: Value, of the reference.
-/
import Derived.Test.YtgmndjbicandfaaDoorQnnes00
import Derived.Test.YtgmndjbicandfaaDoorQnnes22
import Derived.Test.YtgmndjbicandfaaDoorQnnes37
set_option maxRecDepth 100000
set_option maxHeartbeats 16000000
namespace Go.Proofs.YtgmndjbicandfaaDoor
open Go.RowKit Go.Maps
theorem mx_len0 {d : Nat} {T : Xt} (h : MX (d + 1) T) (hk : (T []).k = 1 ∨ (T []).k = 2) : (T []).len = 0 := by
 obtain ⟨left, _, hl⟩ := h
 have hl : 0 ≤ (if left - 1 < 0 then -1 else match xwant (T []) with | none => -1 | some m => xks (xleft d) (kid T) m (left - 1)) := hl
 split at hl
 ·omega
 ·split at hl
  ·omega
  ·rename_i hw
   unfold xwant at hw
   split at hw
   ·split at hw
    ·rename_i g; exact g.2.2.2
    ·cases hw
   ·split at hw
    ·split at hw
     ·rename_i g; exact g.2.2
     ·cases hw
    ·omega
end Go.Proofs.YtgmndjbicandfaaDoor
