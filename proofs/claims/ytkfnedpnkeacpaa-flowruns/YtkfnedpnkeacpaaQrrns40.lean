/-
  Stage 21: the sum of terms, place by place; values of pieces of blocks.
-/
import Derived.Test.YtkfnedpnkeacpaaQrrns39
import Derived.Test.YtkfnedpnkeacpaaQrrns00
set_option maxRecDepth 100000
set_option maxHeartbeats 16000000
namespace Go.Proofs.Ytkfnedpnkeacpaa
open Go.RowKit
/-- The sum of the first n terms, at a place. -/
def sx (x : Nat → Nat → Nat) (g : Nat → Nat) : Nat → Nat → Nat
 | 0, _ => 0
 | n + 1, i => sx x g n i ^^^ fm (g n) (x n i)
/-- A node's block. -/
def opx (l : List ((Nat → Nat) × Nat)) : Nat → Nat := fun i => l.foldl (fun s p => s ^^^ fm p.2 (p.1 i)) 0
theorem opx_sx (x : Nat → Nat → Nat) (g : Nat → Nat) : ∀ n, opx ((List.range n).map fun j => (x j, g j)) = sx x g n := by
 intro n
 induction n with
 | zero => rfl
 | succ n ih =>
  funext i
  have := congrFun ih i
  unfold opx at *
  rw [List.range_succ, List.map_append, List.foldl_append, this]
  rfl
theorem sx_lt {x : Nat → Nat → Nat} {g : Nat → Nat} {i : Nat} : ∀ n, (∀ j, j < n → g j < 256) → sx x g n i < 256 := by
 intro n
 induction n with
 | zero => intro _; show 0 < 256; omega
 | succ n ih =>
  intro h
  exact qbm _ _ (ih fun j hj => h j (by omega)) (qax _ _ (h n (by omega)))
/-- What a flow's value is, at each place, of blocks b. -/
def vlx (F : Fl) (b : Nat → Nat → Nat) (v : Nat) : Nat → Nat := evl F b opx (v + 1) v
theorem qd8 {F : Fl} {b : Nat → Nat → Nat} {v : Nat} (h : v < F.ni) : vlx F b v = b (F.inp v).toNat := qd7 h
theorem qb0 {F : Fl} (hM : MayP F) {b : Nat → Nat → Nat} {v : Nat} (h : F.ni ≤ v) (hv : v < F.ni + F.nn) : vlx F b v = sx (fun j => vlx F b (tv F v j)) (F.fc (v - F.ni)) (tn F v) := by
 unfold vlx
 rw [qaz h, ← opx_sx]
 congr 1
 apply List.map_congr_left
 intro j hj
 have h3 := (hM.term hv (List.mem_range.1 hj)).2.1
 rw [evl_more hM b opx v (tv F v j + 1) _ (by omega) (by omega) (by omega)]
theorem vlx_lt {F : Fl} (hM : MayP F) (hf : ∀ v j, F.ni ≤ v → v < F.ni + F.nn → j < tn F v → F.fc (v - F.ni) j < 256) {b : Nat → Nat → Nat} {i v : Nat} (hb : ∀ v, v < F.ni → b (F.inp v).toNat i < 256) (hN : v < F.ni + F.nn) : vlx F b v i < 256 := by
 by_cases e : v < F.ni
 ·rw [qd8 e]; exact hb v e
 ·rw [qb0 hM (by omega) hN]
  exact sx_lt _ fun j hj => hf v j (by omega) hN hj
end Go.Proofs.Ytkfnedpnkeacpaa
