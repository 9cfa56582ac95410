/-
  Stage 12: y in the place of a name; memory that goes on being read while other blocks are written.
-/
import Derived.Test.YtgmndjbicandfaaDoorQtted00
import Derived.Test.YtgmndjbicandfaaDoorQtted23
import Derived.Test.YtgmndjbicandfaaDoorQtted24
import Derived.Maps.AppendAt
set_option maxRecDepth 100000
set_option maxHeartbeats 16000000
namespace Go.Proofs.YtgmndjbicandfaaDoor
open Go.RowKit
theorem qae {w u : World} {a : Addr} {v : Value} (h : w.cell? a = some v) (hb : u.heap[a.block]? = w.heap[a.block]?) : u.cell? a = some v := by
 rw [← h]
 unfold World.cell?
 rw [hb]
theorem cell_blk {w : World} {a : Addr} {v : Value} (h : w.cell? a = some v) : a.block < w.heap.size := by
 unfold World.cell? at h
 split at h
 ·rename_i hg
  exact lt_of_block hg
 ·cases h
theorem XA.agree {w u : World} (hb : ∀ b, b < w.heap.size → u.heap[b]? = w.heap[b]?) : ∀ {d b o : Nat} {T : Xt}, XA d w b o T → XA d u b o T := by
 intro d
 induction d with
 | zero => intro _ _ _ _; trivial
 | succ d ih =>
  intro b o T h
  obtain ⟨a, cap, h0, h1, h2, h3, h4, h5, hok, hl⟩ := h
  have hB := hb b (cell_blk h0)
  refine ⟨a, cap, qae h0 hB, qae h1 hB, qae h2 hB, qae h3 hB, qae h4 hB, qae h5 hB, hok, fun i hi => ?_⟩
  obtain ⟨b', o', e, h⟩ := hl i hi
  exact ⟨b', o', e, ih h⟩
theorem XV.agree {w u : World} {v : Value} {T : Xt} (h : XV w v T) (hb : ∀ b, b < w.heap.size → u.heap[b]? = w.heap[b]?) : XV u v T := by
 obtain ⟨⟨a, cap, e, hl⟩, hok⟩ := h
 exact ⟨⟨a, cap, e, fun d i hi => by obtain ⟨b, o, e, h⟩ := hl d i hi; exact ⟨b, o, e, h.agree hb⟩⟩, hok⟩
end Go.Proofs.YtgmndjbicandfaaDoor
