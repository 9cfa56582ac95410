/-
  Contracts of the matrices' reference: Right, At, Zero, Make, Like.
  Lists that are not the same: the reference's Same, exactly.
  Contracts of the matrices' reference: Make, Same of lists, Like, Identity, Row.
-/
import Derived.Test.YtkfnedpnkeacpaaQllss00
import Derived.Test.YtkfnedpnkeacpaaQllss10
import Derived.Deep.MidRow
import Derived.Test.YtkfnedpnkeacpaaQllss03
import Derived.Lib.Bytes
set_option maxRecDepth 100000
set_option maxHeartbeats 16000000
namespace Go.Proofs.Ytkfnedpnkeacpaa
open Go.RowKit
/-- A matrix as a value. -/
abbrev mv (r c : Int) (a : Option Addr) (n k : Nat) : Value := .agg #[.int .i64 r, .int .i64 c, .slice a n k]
/-- Right, in numbers. -/
def RightP (r c : Int) (n : Nat) : Prop := 0 ≤ r ∧ r ≤ 64 ∧ 0 ≤ c ∧ c ≤ 64 ∧ (n : Int) = r * c
theorem qep {r c : Int} (h1 : 0 ≤ r) (h2 : r ≤ 64) (h3 : 0 ≤ c) (h4 : c ≤ 64) : 0 ≤ r * c ∧ r * c ≤ 4096 :=
 ⟨Int.mul_nonneg h1 h3, Int.le_trans (Int.mul_le_mul_of_nonneg_right h2 h3) (by omega)⟩
theorem qae (w : World) (o : Obj) : Below w.heap.size w (w.alloc o) := (Below.refl _ _).alloc (Nat.le_refl _) _
/-- A variable of three cells: a matrix's. -/
def Vr (w : World) (b : Nat) (x y z : Value) : Prop := w.heap[b]? = some (.cells #[x, y, z] 24 (0, 0))
theorem Vr.lt {w : World} {b : Nat} {x y z : Value} (h : Vr w b x y z) : b < w.heap.size := lt_of_block h
theorem Vr.c0 {w : World} {b : Nat} {x y z : Value} (h : Vr w b x y z) : w.cell? ⟨b, 0, none⟩ = some x := by rw [cell_of_row w b 0 _ _ _ h]; rfl
theorem Vr.c1 {w : World} {b : Nat} {x y z : Value} (h : Vr w b x y z) : w.cell? ⟨b, 1, none⟩ = some y := by rw [cell_of_row w b 1 _ _ _ h]; rfl
theorem Vr.c2 {w : World} {b : Nat} {x y z : Value} (h : Vr w b x y z) : w.cell? ⟨b, 2, none⟩ = some z := by rw [cell_of_row w b 2 _ _ _ h]; rfl
theorem Vr.free {w : World} {b : Nat} {x y z : Value} (h : Vr w b x y z) (i : Nat) : w.frozen? ⟨b, i, none⟩ = false := by
 unfold Vr at h
 simp [World.frozen?, h]
theorem Vr.later {w w' : World} {b : Nat} {x y z : Value} (h : Vr w b x y z) (hb : Below w.heap.size w w') : Vr w' b x y z := by unfold Vr; rw [hb.block b h.lt]; exact h
theorem Vr.kept {w w' : World} {b g : Nat} {x y z : Value} (h : Vr w b x y z) (hg : w.grownBy w' (some g)) (hne : b ≠ g) : Vr w' b x y z := by unfold Vr; rw [hg.block b h.lt (by simpa using hne)]; exact h
theorem Vr.new (w : World) (x y z : Value) : Vr (w.alloc (.cells #[x, y, z] 24)) w.heap.size x y z := new_at w _
theorem Vr.set0 {w : World} {b : Nat} {x y z : Value} (h : Vr w b x y z) (v : Value) : Vr (w.setCell ⟨b, 0, none⟩ v) b v y z := by
 unfold Vr at *
 rw [setCell_eq_setRow w b 0 _ _ (0, 0) _ h, setRow_heap w b _ _ _ (0, 0) h]; rfl
theorem Vr.set1 {w : World} {b : Nat} {x y z : Value} (h : Vr w b x y z) (v : Value) : Vr (w.setCell ⟨b, 1, none⟩ v) b x v z := by
 unfold Vr at *
 rw [setCell_eq_setRow w b 1 _ _ (0, 0) _ h, setRow_heap w b _ _ _ (0, 0) h]; rfl
theorem Vr.set2 {w : World} {b : Nat} {x y z : Value} (h : Vr w b x y z) (v : Value) : Vr (w.setCell ⟨b, 2, none⟩ v) b x y v := by
 unfold Vr at *
 rw [setCell_eq_setRow w b 2 _ _ (0, 0) _ h, setRow_heap w b _ _ _ (0, 0) h]; rfl
theorem Vr.there {w : World} {b : Nat} {x y z : Value} (h : Vr w b x y z) : w.there b 0 3 := by
 intro j hj
 rcases (by omega : j = 0 ∨ j = 1 ∨ j = 2) with rfl | rfl | rfl
 ·exact ⟨by rw [Nat.zero_add, h.c0]; rfl, h.free _⟩
 ·exact ⟨by rw [Nat.zero_add, h.c1]; rfl, h.free _⟩
 ·exact ⟨by rw [Nat.zero_add, h.c2]; rfl, h.free _⟩
end Go.Proofs.Ytkfnedpnkeacpaa
