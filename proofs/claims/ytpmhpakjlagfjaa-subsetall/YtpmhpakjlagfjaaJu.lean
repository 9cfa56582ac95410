/-
  Variables of one cell; what the loop over All's sets leaves to be done.
-/
import Derived.Test.YtpmhpakjlagfjaaJt
namespace Go.Proofs.Ytpmhpakjlagfjaa
open Go.RowKit Go.Shelf
/-- A variable of one cell. -/
def Cl (w : World) (b : Nat) (v : Value) (T : TypeId) : Prop := w.heap[b]? = some (.cells #[v] T (0, 0))
theorem Cl.lt {w : World} {b : Nat} {v : Value} {T : TypeId} (h : Cl w b v T) : b < w.heap.size := lt_of_block h
theorem Cl.cell {w : World} {b : Nat} {v : Value} {T : TypeId} (h : Cl w b v T) : w.cell? ⟨b, 0, none⟩ = some v := by rw [cell_of_row w b 0 _ _ _ h]; rfl
theorem Cl.free {w : World} {b : Nat} {v : Value} {T : TypeId} (h : Cl w b v T) : w.frozen? ⟨b, 0, none⟩ = false := by
  unfold Cl at h
  simp [World.frozen?, h]
theorem Cl.later {w w' : World} {b : Nat} {v : Value} {T : TypeId} (h : Cl w b v T) (hb : Below w.heap.size w w') : Cl w' b v T := by unfold Cl; rw [hb.block b h.lt]; exact h
theorem Cl.kept {w w' : World} {b : Nat} {v : Value} {T : TypeId} {row : Option Nat} (h : Cl w b v T) (hg : w.grownBy w' row) (hn : row ≠ some b) : Cl w' b v T := by unfold Cl; rw [hg.block b h.lt (fun e => hn e.symm)]; exact h
theorem Cl.set {w : World} {b : Nat} {v : Value} {T : TypeId} (h : Cl w b v T) (v' : Value) : Cl (w.setCell ⟨b, 0, none⟩ v') b v' T := by
  unfold Cl at *
  rw [setCell_eq_setRow w b 0 _ _ (0, 0) _ h, setRow_heap w b _ _ _ (0, 0) h]
  rfl
theorem Cl.new (w : World) (v : Value) (T : TypeId) : Cl (w.alloc (.cells #[v] T)) w.heap.size v T := heap_alloc_new w _
theorem jgrown_trans {a b c : World} {row : Option Nat} (h : a.grownBy b row) (k : b.grownBy c row) : a.grownBy c row :=
  ⟨k.os.trans h.os, k.tape.trans h.tape, k.output.trans h.output, Nat.le_trans h.size k.size, fun i hi hn => (k.block i (Nat.lt_of_lt_of_le hi h.size) hn).trans (h.block i hi hn)⟩
theorem jgrown_high {a b c : World} {row r2 : Option Nat} (h : a.grownBy b row) (k : b.grownBy c r2) (hr : ∀ g, r2 = some g → a.heap.size ≤ g) : a.grownBy c row :=
  ⟨k.os.trans h.os, k.tape.trans h.tape, k.output.trans h.output, Nat.le_trans h.size k.size, fun i hi hn => (k.block i (Nat.lt_of_lt_of_le hi h.size) (fun e => by have := hr i e.symm; omega)).trans (h.block i hi hn)⟩
theorem jgrown_set (w : World) (g i : Nat) (v : Value) : w.grownBy (w.setCell ⟨g, i, none⟩ v) (some g) :=
  ⟨rfl, rfl, rfl, by simp, fun k _ hk => Below.heap_setCell w ⟨g, i, none⟩ v k (by intro e; apply hk; simpa using e)⟩
/-- The marks that loops over functions have left: blocks from B on and below E. -/
def DOk (W : World) (B : Nat) : Nat → List Deferred → Prop
  | _, [] => True
  | E, d :: ds => ∃ D, d = { target := .collected D, args := #[] } ∧ B ≤ D ∧ D < E ∧ W.heap[D]? = some (.deferred (some [])) ∧ DOk W B D ds
theorem DOk.mono {W : World} {B E E' : Nat} {ds : List Deferred} (h : DOk W B E ds) (hE : E ≤ E') : DOk W B E' ds := by
  cases ds with
  | nil => trivial
  | cons d ds =>
    obtain ⟨D, h1, h2, h3, h4, h5⟩ := h
    exact ⟨D, h1, h2, by omega, h4, h5⟩
theorem DOk.kept {W W' : World} {B : Nat} : ∀ {E : Nat} {ds : List Deferred}, DOk W B E ds → (∀ i, B ≤ i → i < E → i < W.heap.size → W'.heap[i]? = W.heap[i]?) → DOk W' B E ds := by
  intro E ds
  induction ds generalizing E with
  | nil => intro _ _; trivial
  | cons d ds ih =>
    rintro ⟨D, h1, h2, h3, h4, h5⟩ hk
    exact ⟨D, h1, h2, h3, by rw [hk D h2 h3 (lt_of_block h4)]; exact h4, ih h5 (fun i a b c => hk i a (by omega) c)⟩
theorem fn_nil (c : Array Value) (W : World) : Sem.run Try.prog (binOp BinOp.eql 48 (Value.func (Fn.func 39) #[] c) Value.nilFunc) W = .ok (.bool false) W := rfl
end Go.Proofs.Ytpmhpakjlagfjaa
