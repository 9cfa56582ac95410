/-
  Contracts of addProducts, Scale, Mac.
-/
import Derived.Test.YtlfmekjkgegclabLc
namespace Go.Proofs.Ytlfmekjkgegclab
open Go.RowKit
theorem fm16_all : allB (fun e => Nat.beq (e % 16 ^^^ 16 * (e / 16)) e) 256 = true := by kernel_rfl
theorem sixteen_all : allB (fun m => Nat.beq (fm 16 m) (16 * m)) 16 = true := by kernel_rfl
theorem halves (c e : Nat) (hc : c < 256) (he : e < 256) : fm c (e % 16) ^^^ fm (fm c 16) (e / 16) = fm c e := by
  have h1 := allB_at fm16_all e he
  have h2 := allB_at sixteen_all (e / 16) (by omega)
  simp only [Nat.beq_eq] at h1 h2
  rw [fm_assoc c 16 _ hc (by decide), h2, ← fm_xor, h1]
theorem and15_u8 (e : Nat) (he : e < 256) : bits .and .u8 (e : Int) 15 = ((e % 16 : Nat) : Int) := by
  have := u8_and_nat e 15 he (by decide)
  rw [nat_mask4] at this
  exact this
theorem setRow_setRow_at {w2 : World} {Z Y : Array Value} {t : TypeId} (ms ns : Array Value) :
    ((((w2.alloc (.cells Z t)).alloc (.cells Y t)).setRow w2.heap.size ms).setRow (w2.heap.size + 1) ns).heap[w2.heap.size]? = some (.cells ms t (0, 0)) ∧
    ((((w2.alloc (.cells Z t)).alloc (.cells Y t)).setRow w2.heap.size ms).setRow (w2.heap.size + 1) ns).heap[w2.heap.size + 1]? = some (.cells ns t (0, 0)) := by
  refine ⟨?_, ?_⟩
  · rw [setRow_other _ _ _ _ (by omega), setRow_heap _ _ _ _ _ _ (heap_alloc2_old ..)]
  · refine setRow_heap _ _ (old := Y) _ _ _ ?_
    rw [setRow_other _ _ _ _ (by omega)]
    exact heap_alloc2_new ..
theorem two_rows_below {w w2 : World} {Z Y : Array Value} {t : TypeId} (ms ns : Array Value) (h : Below w.heap.size w w2) :
    Below w.heap.size w ((((w2.alloc (.cells Z t)).alloc (.cells Y t)).setRow w2.heap.size ms).setRow (w2.heap.size + 1) ns) := by
  have := h.size
  exact below_setRow (below_setRow ((h.alloc this _).alloc (by simp; omega) _) this _) (by omega) _
theorem grown_drew {w w' : World} {row : Option Nat} (h : w.grownBy w' row) : w.grownBy w'.drew row := ⟨h.os, h.tape, h.output, h.size, h.block⟩
end Go.Proofs.Ytlfmekjkgegclab
