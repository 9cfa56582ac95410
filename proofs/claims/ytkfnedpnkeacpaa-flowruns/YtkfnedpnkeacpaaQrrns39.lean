/-
  Stage 21: what comes out of a flow, whatever the values are, and what trimming leaves of it.
-/
import Derived.Test.YtkfnedpnkeacpaaQrrns00
import Derived.Test.YtkfnedpnkeacpaaQrrns38
set_option maxRecDepth 100000
set_option maxHeartbeats 16000000
namespace Go.Proofs.Ytkfnedpnkeacpaa
open Go.RowKit
/-- The value with the number v: b gives the inputs, op makes a node's value of those of its terms. -/
def evl {α : Type} (F : Fl) (b : Nat → α) (op : List (α × Nat) → α) : Nat → Nat → α
 | 0, _ => op []
 | d + 1, v => if v < F.ni then b (F.inp v).toNat else op ((List.range (tn F v)).map fun j => (evl F b op d (tv F v j), F.fc (v - F.ni) j))
theorem qd7 {α : Type} {F : Fl} {b : Nat → α} {op : List (α × Nat) → α} {d v : Nat} (h : v < F.ni) : evl F b op (d + 1) v = b (F.inp v).toNat := if_pos h
theorem qaz {α : Type} {F : Fl} {b : Nat → α} {op : List (α × Nat) → α} {d v : Nat} (h : F.ni ≤ v) : evl F b op (d + 1) v = op ((List.range (tn F v)).map fun j => (evl F b op d (tv F v j), F.fc (v - F.ni) j)) := if_neg (by omega)
/-- More steps than the number change nothing. -/
theorem evl_more {α : Type} {F : Fl} (hM : MayP F) (b : Nat → α) (op : List (α × Nat) → α) : ∀ d d' v, v < F.ni + F.nn → v < d → v < d' → evl F b op d v = evl F b op d' v := by
 intro d
 induction d with
 | zero => intro d' v _ h; omega
 | succ d ih =>
  intro d' v hv h1 h2
  cases d' with
  | zero => omega
  | succ d' =>
   by_cases e : v < F.ni
   ·rw [qd7 e, qd7 e]
   ·rw [qaz (by omega), qaz (by omega)]
    congr 1
    apply List.map_congr_left
    intro j hj
    have h3 := (hM.term hv (List.mem_range.1 hj)).2.1
    rw [ih d' _ (by omega) (by omega) (by omega)]
end Go.Proofs.Ytkfnedpnkeacpaa
