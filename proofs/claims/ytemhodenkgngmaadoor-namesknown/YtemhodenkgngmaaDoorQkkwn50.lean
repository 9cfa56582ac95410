/-
  Stage 13: a list of items, copied into new memory with one item behind it.
-/
import Derived.Test.YtemhodenkgngmaaDoorQkkwn00
import Derived.Test.YtemhodenkgngmaaDoorQkkwn45
import Derived.Test.YtemhodenkgngmaaDoorQkkwn38
import Derived.Deep.AppendLies
set_option maxRecDepth 100000
set_option maxHeartbeats 16000000
namespace Go.Proofs.YtemhodenkgngmaaDoor
open Go.RowKit Go.Shelf Go.Maps
theorem XC.later {w w' : World} {cs : List Value} {T : Xt} (h : XC w cs T) (hb : Below w.heap.size w w') : XC w' cs T := by
 obtain ⟨a, cap, e, hok, hl⟩ := h
 exact ⟨a, cap, e, hok, fun d => (hl d).later hb⟩
theorem SC.later {w w' : World} {cs : List Value} {S : St} (h : SC w cs S) (hb : Below w.heap.size w w') : SC w' cs S := by
 obtain ⟨aa, pa, ra, ca, cp, cr, e, hok, ha, hr, hp⟩ := h
 exact ⟨aa, pa, ra, ca, cp, cr, e, hok, fun d => (ha d).later hb, hr.later hb, fun d => (hp d).later hb⟩
theorem qdy : (Tryd.prog.info? 35).map (·.size) = some 4 := by kernel_rfl
end Go.Proofs.YtemhodenkgngmaaDoor
