/-
  Contracts of the tables: powersOfTwo, exponentsOfTwo.
  Contract of the table of exponents.
  Contracts of inBounds, powerWithin, Pow, Exp, Log, Inv, Div.
  Contracts of Pow, Exp, Log, Inv, Div.
  Contracts of Pow (all of it), Exp, Log, Inv, Div.
-/
import Derived.Test.YtkfnedpnkeacpaaQbbck00
import Derived.Test.YtkfnedpnkeacpaaQbbck01
import Derived.Laws.Rows
import Derived.Laws.Tables
import Derived.Below
import Derived.OneCell
import Derived.Laws.CopyOwn
import Derived.Deep.QuietTactic
import Derived.BigQuiet
set_option maxRecDepth 100000
set_option maxHeartbeats 16000000
namespace Go.Proofs.Ytkfnedpnkeacpaa
open Go.RowKit
/-- The cells of an array of n bytes, by their numbers. -/
def row (n : Nat) (f : Nat → Nat) : Array Value := (Array.range n).map fun i => .int .u8 (f i : Nat)
theorem qa3 (n : Nat) (f : Nat → Nat) : (row n f).size = n := by simp [row]
theorem qcs (n : Nat) (f : Nat → Nat) (i : Nat) (h : i < n) : (row n f)[i]? = some (.int .u8 (f i : Nat)) := by simp [row, h]
theorem row_set (n : Nat) (f : Nat → Nat) (i v : Nat) : (row n f).setIfInBounds i (.int .u8 (v : Int)) = row n (fun j => if j = i then v else f j) := by
 apply Array.ext
 ·simp [row]
 ·intro j h1 h2
  by_cases e : i = j
  ·subst e; simp [row]
  ·rw [Array.getElem_setIfInBounds_ne (by simpa using h1) e]; simp [row, Ne.symm e]
theorem qce (n : Nat) (f f' : Nat → Nat) (h : ∀ i, i < n → f i = f' i) : row n f = row n f' := by
 apply Array.ext
 ·simp [row]
 ·intro j h1 h2
  simp [qa3] at h1
  simp [row, h j h1]
theorem row_one (n : Nat) (f : Nat → Nat) : (row n f).all (·.oneCell') = true := by
 simp only [row, Array.all_eq_true]
 intro i hi
 simp
 rfl
/-- The block of an array of bytes. -/
def RowAt (w : World) (b : Nat) (t : TypeId) (n : Nat) (f : Nat → Nat) : Prop := w.heap[b]? = some (.cells (row n f) t (0, 0))
theorem RowAt.cell {w : World} {b : Nat} {t : TypeId} {n : Nat} {f : Nat → Nat} (h : RowAt w b t n f) (i : Nat) (hi : i < n) : w.cell? ⟨b, i, none⟩ = some (.int .u8 (f i : Nat)) := by
 rw [cell_of_row w b i _ t _ h, qcs n f i hi]
theorem RowAt.free {w : World} {b : Nat} {t : TypeId} {n : Nat} {f : Nat → Nat} (h : RowAt w b t n f) (i : Nat) : w.frozen? ⟨b, i, none⟩ = false := by
 unfold RowAt at h
 simp [World.frozen?, h]
theorem RowAt.set {w : World} {b : Nat} {t : TypeId} {n : Nat} {f : Nat → Nat} (h : RowAt w b t n f) (i v : Nat) : RowAt (w.setCell ⟨b, i, none⟩ (.int .u8 (v : Int))) b t n (fun j => if j = i then v else f j) := by
 unfold RowAt at *
 rw [setCell_eq_setRow w b i _ t (0, 0) _ h, setRow_heap w b _ _ t (0, 0) h, row_set]
theorem RowAt.other {w : World} {b : Nat} {t : TypeId} {n : Nat} {f : Nat → Nat} (h : RowAt w b t n f) (a : Addr) (v : Value) (hb : b ≠ a.block) : RowAt (w.setCell a v) b t n f := by
 unfold RowAt at *
 rw [Below.heap_setCell w a v b hb, h]
theorem RowAt.congr {w : World} {b : Nat} {t : TypeId} {n : Nat} {f f' : Nat → Nat} (h : RowAt w b t n f) (e : ∀ i, i < n → f i = f' i) : RowAt w b t n f' := by
 unfold RowAt at *
 rw [h, qce n f f' e]
open Go.RowKit
theorem new_at (w : World) (o : Obj) : (w.alloc o).heap[w.heap.size]? = some o := Go.heap_alloc_new w o
theorem facts (t : TypeId) (n : Nat) (f : Nat → Nat) (cs zs : Array Value) (hs : (Try.prog.info? t).map (·.size) = some n) (HC : Hid (cs = row n f)) (HZ : Hid (zs = row n fun _ => 0)) :
  (Try.prog.info? t).map (·.size) = some cs.size ∧ zs.size = cs.size ∧ cs.all (·.oneCell') = true := by
 rw [HC.out, HZ.out]; exact ⟨by rw [qa3]; exact hs, by rw [qa3, qa3], row_one _ _⟩
open Go.RowKit
theorem qa6 {w w1 w2 : World} (h1 : Below w.heap.size w w1) (h2 : Below w1.heap.size w1 w2) : Below w.heap.size w w2 := h1.trans (h2.mono h1.size)
end Go.Proofs.Ytkfnedpnkeacpaa
