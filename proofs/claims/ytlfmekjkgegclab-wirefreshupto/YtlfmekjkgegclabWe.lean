/-
  Contracts of Pow, Exp, Log, Inv, Div.
-/
import Derived.Test.YtlfmekjkgegclabWd
namespace Go.Proofs.Ytlfmekjkgegclab
open Go.RowKit
theorem alloc_setRow (w : World) (old cs : Array Value) (t : TypeId) : (w.alloc (.cells old t)).setRow w.heap.size cs = w.alloc (.cells cs t) := by
  cases w with
  | mk heap tape drawn os output =>
    show World.mk ((heap.push _).modify heap.size _) _ _ _ _ = World.mk (heap.push _) _ _ _ _
    congr 1
    apply Array.ext
    · simp
    · intro i h1 h2
      simp only [Array.getElem_modify, Array.getElem_push]
      split
      · rename_i hk; subst hk; simp
      · rename_i hk
        simp at h2
        simp [show i < heap.size by omega]
theorem new_at (w : World) (o : Obj) : (w.alloc o).heap[w.heap.size]? = some o := Go.heap_alloc_new w o
theorem keep_row {w1 w2 : World} {o : Obj} (p : Obj) (hb : Below (w1.alloc o).heap.size (w1.alloc o) w2) : (w2.alloc p).heap[w1.heap.size]? = some o := by
  have h1 := hb.size
  simp at h1
  rw [Below.heap_alloc _ _ _ (by omega), hb.block _ (by simp), new_at]
theorem chain {w w1 w2 w3 : World} {o p : Obj} (h1 : Below w.heap.size w w1) (h2 : Below (w1.alloc o).heap.size (w1.alloc o) w2) (h3 : Below (w2.alloc p).heap.size (w2.alloc p) w3) : Below w.heap.size w w3 := by
  have s1 := h1.size
  have s2 := h2.size
  simp at s2
  exact (((h1.alloc s1 _).trans (h2.mono (by simp; omega))).alloc (by omega) _).trans (h3.mono (by simp; omega))
theorem facts (t : TypeId) (n : Nat) (f : Nat → Nat) (cs zs : Array Value) (hs : (Try.prog.info? t).map (·.size) = some n) (HC : Hid (cs = row n f)) (HZ : Hid (zs = row n fun _ => 0)) :
    (Try.prog.info? t).map (·.size) = some cs.size ∧ zs.size = cs.size ∧ cs.all (·.oneCell') = true := by
  rw [HC.out, HZ.out]; exact ⟨by rw [row_size]; exact hs, by rw [row_size, row_size], row_one _ _⟩
end Go.Proofs.Ytlfmekjkgegclab
