/-
  Contract of the generators' reference: Vandermonde.
  Contracts of the generators' reference: Vandermonde's error, top.
  Contracts of the generators' reference: Systematic, Check.
  Contract of the generators' reference: Check.
  Contract of the generators' reference: Cauchy.
  Contracts of the generators' reference: Cauchy's errors.
  Contracts of the generators' reference: fits, Reed.
  Contract of the generators' reference: Cross.
-/
import Derived.Test.YtnfbbddoaeofgabGreatQlles00
import Derived.Test.YtnfbbddoaeofgabGreatQlles14
import Derived.Test.YtnfbbddoaeofgabGreatQlles02
import Derived.Test.YtnfbbddoaeofgabGreatQlles20
import Derived.Test.YtnfbbddoaeofgabGreatQlles21
import Derived.Test.YtnfbbddoaeofgabGreatQlles19
set_option maxRecDepth 100000
set_option maxHeartbeats 16000000
namespace Go.Proofs.YtnfbbddoaeofgabGreat
open Go.RowKit
/-- The first q entries are written. -/
def upt (F : Nat → Nat) (q p : Nat) : Nat := if p < q then F p else 0
theorem upt_step (F : Nat → Nat) (q t : Nat) : (if t = q then F q else upt F q t) = upt F (q + 1) t := by
 unfold upt
 by_cases e : t = q
 ·subst e; rw [if_pos rfl, if_pos (by omega)]
 ·rw [if_neg e]
  by_cases h : t < q
  ·rw [if_pos h, if_pos (by omega)]
  ·rw [if_neg h, if_neg (by omega)]
theorem upt_all (F : Nat → Nat) {q t : Nat} (h : t < q) : upt F q t = F t := if_pos h
/-- A matrix under way in its variable. -/
structure ZInv (w w1 wr : World) (g r c m : Nat) (f : Nat → Nat) : Prop where
 row : RowAt wr g 5 m f
 vm : Vr wr w1.heap.size (.int .i64 (r : Int)) (.int .i64 (c : Int)) (.slice (some ⟨g, 0, none⟩) m m)
 vr : Vr wr w.heap.size (.int .i64 0) (.int .i64 0) (.slice none 0 0)
 below : Below w.heap.size w wr
 lo : w.heap.size < g
 hi : g < w1.heap.size
theorem ZInv.later {w w1 wr w' : World} {g r c m : Nat} {f : Nat → Nat} (I : ZInv w w1 wr g r c m f) (hb : Below wr.heap.size wr w') : ZInv w w1 w' g r c m f := ⟨I.row.later hb, I.vm.later hb, I.vr.later hb, qa2 I.below hb, I.lo, I.hi⟩
theorem ZInv.congr {w w1 wr : World} {g r c m : Nat} {f f' : Nat → Nat} (I : ZInv w w1 wr g r c m f) (e : ∀ i, i < m → f i = f' i) : ZInv w w1 wr g r c m f' := ⟨I.row.congr e, I.vm, I.vr, I.below, I.lo, I.hi⟩
theorem ZInv.set {w w1 wr : World} {g r c m p x : Nat} {f : Nat → Nat} (I : ZInv w w1 wr g r c m f) : ZInv w w1 (wr.setCell ⟨g, p, none⟩ (.int .u8 (x : Int))) g r c m (fun i => if i = p then x else f i) :=
 ⟨I.row.set p x, I.vm.kept (qa3 _ _ _ _) (by have := I.hi; omega), I.vr.kept (qa3 _ _ _ _) (by have := I.lo; omega), qa4 I.below (qa3 _ _ _ _) (by have := I.lo; omega), I.lo, I.hi⟩
open Go.RowKit
/-- All of both lists are unlike. -/
def Dst (X : Nat → Nat) (n : Nat) (Y : Nat → Nat) (m : Nat) : Prop := ∀ i j, i < n + m → j < i → stf X Y n i ≠ stf X Y n j
def cauf (X Y : Nat → Nat) (c p : Nat) : Nat := finv (X (p / c) ^^^ Y (p % c))
theorem qj6 {X Y : Nat → Nat} {c i j : Nat} (hj : j < c) : cauf X Y c (i * c + j) = finv (X i ^^^ Y j) := by unfold cauf; rw [dm1 hj, dm2 hj]
theorem stf_lt6 {X Y : Nat → Nat} {n m : Nat} (hX : ∀ i, i < n → X i < 256) (hY : ∀ i, i < m → Y i < 256) : ∀ p, p < n + m → stf X Y n p < 256 := fun p hp => by
 unfold stf
 split
 ·exact hX _ (by omega)
 ·exact hY _ (by omega)
open Go.RowKit
/-- Cross's entries. -/
def crf (k : Nat) : Nat → Nat := stf (idf k) (cauf (fun p => k + p) (fun p => p) k) (k * k)
theorem dst_crs (k m : Nat) : Dst (fun p => k + p) m (fun p => p) k := fun i j hi hj => by
 unfold stf
 by_cases h1 : i < m
 ·rw [if_pos h1, if_pos (by omega)]; intro e; dsimp only at e; omega
 ·rw [if_neg h1]
  by_cases h2 : j < m
  ·rw [if_pos h2]; intro e; dsimp only at e; omega
  ·rw [if_neg h2]; intro e; dsimp only at e; omega
end Go.Proofs.YtnfbbddoaeofgabGreat
