/-
  Contract of the polynomials' reference: Interpolate.
-/
import Derived.Test.YthpjedoolbfjfabRh
import Derived.Test.YthpjedoolbfjfabPd
namespace Go.Proofs.Ythpjedoolbfjfab
open Go.RowKit
/-- The cells of an array of bools. -/
def brow (n : Nat) (p : Nat → Bool) : Array Value := (Array.range n).map fun i => .bool (p i)
def BAt (w : World) (b : Nat) (t : TypeId) (n : Nat) (p : Nat → Bool) : Prop := w.heap[b]? = some (.cells (brow n p) t (0, 0))
theorem brow_get (n : Nat) (p : Nat → Bool) (i : Nat) (h : i < n) : (brow n p)[i]? = some (.bool (p i)) := by simp [brow, h]
theorem BAt.cell {w : World} {b : Nat} {t : TypeId} {n : Nat} {p : Nat → Bool} (h : BAt w b t n p) (i : Nat) (hi : i < n) : w.cell? ⟨b, i, none⟩ = some (.bool (p i)) := by
  rw [cell_of_row w b i _ t _ h, brow_get n p i hi]
theorem BAt.free {w : World} {b : Nat} {t : TypeId} {n : Nat} {p : Nat → Bool} (h : BAt w b t n p) (i : Nat) : w.frozen? ⟨b, i, none⟩ = false := by
  unfold BAt at h; simp [World.frozen?, h]
theorem brow_set (n : Nat) (p : Nat → Bool) (i : Nat) (v : Bool) : (brow n p).setIfInBounds i (.bool v) = brow n (fun j => if j = i then v else p j) := by
  apply Array.ext
  · simp [brow]
  · intro j h1 h2
    by_cases e : i = j
    · subst e; simp [brow]
    · rw [Array.getElem_setIfInBounds_ne (by simpa using h1) e]; simp [brow, Ne.symm e]
theorem BAt.set {w : World} {b : Nat} {t : TypeId} {n : Nat} {p : Nat → Bool} (h : BAt w b t n p) (i : Nat) (v : Bool) : BAt (w.setCell ⟨b, i, none⟩ (.bool v)) b t n (fun j => if j = i then v else p j) := by
  unfold BAt at *
  rw [setCell_eq_setRow w b i _ t (0, 0) _ h, setRow_heap w b _ _ t (0, 0) h, brow_set]
theorem zero46 (w : World) : Sem.run Try.prog (zeroValue 36) w = .ok (.agg (brow 256 fun _ => false)) w := by kernel_rfl
/-- Does x stand among the first k? -/
def seenB (f : Nat → Nat) : Nat → Nat → Bool
  | 0, _ => false
  | k + 1, x => seenB f k x || decide (f k = x)
theorem seenB_iff (f : Nat → Nat) (k x : Nat) : seenB f k x = true ↔ ∃ i, i < k ∧ f i = x := by
  induction k with
  | zero => simp [seenB]
  | succ k ih =>
    simp only [seenB, Bool.or_eq_true, decide_eq_true_eq, ih]
    constructor
    · rintro (⟨i, h1, h2⟩ | h)
      · exact ⟨i, by omega, h2⟩
      · exact ⟨k, by omega, h⟩
    · rintro ⟨i, h1, h2⟩
      by_cases e : i = k
      · subst e; exact .inr h2
      · exact .inl ⟨i, by omega, h2⟩
/-- All unlike, among the first k. -/
def Inj (f : Nat → Nat) (k : Nat) : Prop := ∀ a b, a < k → b < k → f a = f b → a = b
theorem inj_succ {f : Nat → Nat} {k : Nat} (h : Inj f k) (hs : seenB f k (f k) = false) : Inj f (k + 1) := by
  have hn : ¬ ∃ i, i < k ∧ f i = f k := by rw [← seenB_iff, hs]; simp
  intro a b ha hb e
  by_cases e1 : a = k
  · by_cases e2 : b = k
    · omega
    · exact absurd ⟨b, by omega, by rw [← e, e1]⟩ hn
  · by_cases e2 : b = k
    · exact absurd ⟨a, by omega, by rw [e, e2]⟩ hn
    · exact h a b (by omega) (by omega) e
theorem not_inj {f : Nat → Nat} {k n : Nat} (hk : k < n) (hs : seenB f k (f k) = true) : ¬ Inj f n := by
  intro h
  obtain ⟨i, h1, h2⟩ := (seenB_iff f k (f k)).mp hs
  have := h i k (by omega) hk h2
  omega
end Go.Proofs.Ythpjedoolbfjfab
