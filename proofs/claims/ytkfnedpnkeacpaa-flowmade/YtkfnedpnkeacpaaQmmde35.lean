/-
  Stage 21: to trim once more changes nothing; the trimmed flow costs no more.
  Stage 21: what comes out of a flow, whatever the values are, and what trimming leaves of it.
  Stage 21: the sum of terms, place by place; values of pieces of blocks.
-/
import Derived.Test.YtkfnedpnkeacpaaQmmde00
import Derived.Test.YtkfnedpnkeacpaaQmmde33
import Derived.Test.YtkfnedpnkeacpaaQmmde30
import Derived.Test.YtkfnedpnkeacpaaQmmde29
import Derived.Test.YtkfnedpnkeacpaaQmmde01
set_option maxRecDepth 100000
set_option maxHeartbeats 16000000
namespace Go.Proofs.Ytkfnedpnkeacpaa
open Go.RowKit
theorem qd8 {F : Fl} {v : Nat} (h : F.ni ≤ v) : tn F v = F.nt (v - F.ni) := if_neg (by omega)
open Go.RowKit
/-- The value with the number v: b gives the inputs, op makes a node's value of those of its terms. -/
def evl {α : Type} (F : Fl) (b : Nat → α) (op : List (α × Nat) → α) : Nat → Nat → α
 | 0, _ => op []
 | d + 1, v => if v < F.ni then b (F.inp v).toNat else op ((List.range (tn F v)).map fun j => (evl F b op d (tv F v j), F.fc (v - F.ni) j))
theorem qf8 {α : Type} {F : Fl} {b : Nat → α} {op : List (α × Nat) → α} {d v : Nat} (h : v < F.ni) : evl F b op (d + 1) v = b (F.inp v).toNat := if_pos h
theorem qck {α : Type} {F : Fl} {b : Nat → α} {op : List (α × Nat) → α} {d v : Nat} (h : F.ni ≤ v) : evl F b op (d + 1) v = op ((List.range (tn F v)).map fun j => (evl F b op d (tv F v j), F.fc (v - F.ni) j)) := if_neg (by omega)
/-- More steps than the number change nothing. -/
theorem evl_more {α : Type} {F : Fl} (hM : MayP F) (b : Nat → α) (op : List (α × Nat) → α) : ∀ d d' v, v < F.ni + F.nn → v < d → v < d' → evl F b op d v = evl F b op d' v := by
 intro d
 induction d with
 | zero => intro d' v _ h; omega
 | succ d ih =>
  intro d' v hv h1 h2
  cases d' with
  | zero => omega
  | succ d' =>
   by_cases e : v < F.ni
   ·rw [qf8 e, qf8 e]
   ·rw [qck (by omega), qck (by omega)]
    congr 1
    apply List.map_congr_left
    intro j hj
    have h3 := (hM.term hv (List.mem_range.1 hj)).2.1
    rw [ih d' _ (by omega) (by omega) (by omega)]
open Go.RowKit
/-- The sum of the first n terms, at a place. -/
def sx (x : Nat → Nat → Nat) (g : Nat → Nat) : Nat → Nat → Nat
 | 0, _ => 0
 | n + 1, i => sx x g n i ^^^ fm (g n) (x n i)
/-- A node's block. -/
def opx (l : List ((Nat → Nat) × Nat)) : Nat → Nat := fun i => l.foldl (fun s p => s ^^^ fm p.2 (p.1 i)) 0
theorem opx_sx (x : Nat → Nat → Nat) (g : Nat → Nat) : ∀ n, opx ((List.range n).map fun j => (x j, g j)) = sx x g n := by
 intro n
 induction n with
 | zero => rfl
 | succ n ih =>
  funext i
  have := congrFun ih i
  unfold opx at *
  rw [List.range_succ, List.map_append, List.foldl_append, this]
  rfl
theorem sx_lt {x : Nat → Nat → Nat} {g : Nat → Nat} {i : Nat} : ∀ n, (∀ j, j < n → g j < 256) → sx x g n i < 256 := by
 intro n
 induction n with
 | zero => intro _; show 0 < 256; omega
 | succ n ih =>
  intro h
  exact qdb _ _ (ih fun j hj => h j (by omega)) (qcf _ _ (h n (by omega)))
/-- What a flow's value is, at each place, of blocks b. -/
def vlx (F : Fl) (b : Nat → Nat → Nat) (v : Nat) : Nat → Nat := evl F b opx (v + 1) v
theorem qdq {F : Fl} {b : Nat → Nat → Nat} {v : Nat} (h : v < F.ni) : vlx F b v = b (F.inp v).toNat := qf8 h
theorem qbn {F : Fl} (hM : MayP F) {b : Nat → Nat → Nat} {v : Nat} (h : F.ni ≤ v) (hv : v < F.ni + F.nn) : vlx F b v = sx (fun j => vlx F b (tv F v j)) (F.fc (v - F.ni)) (tn F v) := by
 unfold vlx
 rw [qck h, ← opx_sx]
 congr 1
 apply List.map_congr_left
 intro j hj
 have h3 := (hM.term hv (List.mem_range.1 hj)).2.1
 rw [evl_more hM b opx v (tv F v j + 1) _ (by omega) (by omega) (by omega)]
theorem qcv {F : Fl} (hM : MayP F) (hf : ∀ v j, F.ni ≤ v → v < F.ni + F.nn → j < tn F v → F.fc (v - F.ni) j < 256) {b : Nat → Nat → Nat} {i v : Nat} (hb : ∀ v, v < F.ni → b (F.inp v).toNat i < 256) (hN : v < F.ni + F.nn) : vlx F b v i < 256 := by
 by_cases e : v < F.ni
 ·rw [qdq e]; exact hb v e
 ·rw [qbn hM (by omega) hN]
  exact sx_lt _ fun j hj => hf v j (by omega) hN hj
end Go.Proofs.Ytkfnedpnkeacpaa
