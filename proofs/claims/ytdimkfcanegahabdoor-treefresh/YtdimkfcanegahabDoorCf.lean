/-
  Contract of the tree's reference: ExprText.
-/
import Derived.Test.YtdimkfcanegahabDoorCe
import Derived.Test.YtdimkfcanegahabDoorGb
import Derived.Lib.AppendIntMem
import Derived.Deep.RegionHeld
import Derived.Laws.Runes
namespace Go.Proofs.YtdimkfcanegahabDoor
open Go.RowKit
theorem tab_later {w w' : World} (h : Tab9 w) (hb : Below w.heap.size w w') : Tab9 w' := by
  unfold Tab9 Lib.TabIs World.var? at *
  cases hg : Tryd.prog.globalNamed "internal/strconv.uint64pow10" with
  | none => rw [hg] at h; cases h
  | some g =>
    rw [hg] at h
    have hlt : g < w.heap.size := by
      rcases Nat.lt_or_ge g w.heap.size with x | x
      · exact x
      · simp only [Option.bind_some] at h
        rw [Array.getElem?_eq_none x] at h
        cases h
    simp only [Option.bind_some] at *
    rw [hb.block g hlt]
    exact h
end Go.Proofs.YtdimkfcanegahabDoor
