/-
  Contracts of the matrices' reference: Of.
-/
import Derived.Test.YtaoehildaenbnabSn
namespace Go.Proofs.Ytaoehildaenbnab
open Go.RowKit
/-- A slice of lists: the i-th lies at A i, has the length L i and the room C i, and reads as f i 0, f i 1, .. -/
structure Rl (w : World) (b : Option Addr) (m : Nat) (A : Nat → Option Addr) (L C : Nat → Nat) (f : Nat → Nat → Nat) : Prop where
  at' : ∀ i, i < m → ∃ x o, b = some ⟨x, o, none⟩ ∧ w.cell? ⟨x, o + i, none⟩ = some (.slice (A i) (L i) (C i))
  sl : ∀ i, i < m → Sl w (A i) (L i) (f i)
  nil : ∀ i, i < m → A i = none → L i = 0 ∧ C i = 0
theorem Rl.later {w w' : World} {b : Option Addr} {m : Nat} {A : Nat → Option Addr} {L C : Nat → Nat} {f : Nat → Nat → Nat} (h : Rl w b m A L C f) (hb : Below w.heap.size w w') : Rl w' b m A L C f :=
  ⟨fun i hi => by
    obtain ⟨x, o, e, hc⟩ := h.at' i hi
    exact ⟨x, o, e, by rw [hb.cell (p := ⟨x, o + i, none⟩) (cell_lt hc)]; exact hc⟩, fun i hi => (h.sl i hi).later hb, h.nil⟩
/-- The rows' entries, one behind the other. -/
def off (f : Nat → Nat → Nat) (c p : Nat) : Nat := f (p / c) (p % c)
theorem off_at (f : Nat → Nat → Nat) (c i j : Nat) (hj : j < c) : off f c (i * c + j) = f i j := by
  unfold off
  rw [Nat.mul_comm i c, Nat.mul_add_div (by omega), Nat.div_eq_of_lt hj, Nat.add_zero, Nat.mul_add_mod, Nat.mod_eq_of_lt hj]
theorem row_off (f : Nat → Nat → Nat) (c i : Nat) : (row (i * c) (off f c)).toList ++ (row c (f i)).toList = (row ((i + 1) * c) (off f c)).toList := by
  rw [row_stf, Nat.add_mul, Nat.one_mul]
  congr 1
  apply row_congr
  intro p hp
  unfold stf
  by_cases h : p < i * c
  · rw [if_pos h]
  · rw [if_neg h, ← off_at f c i (p - i * c) (by omega)]
    congr 1; omega
/-- What the loop of Of keeps. -/
structure OInv (w wr : World) (m c q : Nat) (G : Nat → Nat) (v : Value) : Prop where
  vr : Vr wr w.heap.size (.int .i64 0) (.int .i64 0) (.slice none 0 0)
  vt : Vr wr (w.heap.size + 1) (.int .i64 (m : Int)) (.int .i64 (c : Int)) v
  own : wr.ownsRow (w.heap.size + 1 + 1) 5 1 v q (row q G).toList
  below : Below w.heap.size w wr
theorem OInv.grown {w w5 w8 : World} {m c q q' cap : Nat} {gg : Option Addr} {G : Nat → Nat} {v : Value} (I : OInv w w5 m c q G v)
    (hown : w8.ownsRow (w.heap.size + 1 + 1) 5 1 (.slice gg q' cap) q' (row q' G).toList) (hg : w5.grownBy w8 v.ownBlock) :
    OInv w (w8.setCell ⟨w.heap.size + 1, 2, none⟩ (.slice gg q' cap)) m c q' G (.slice gg q' cap) := by
  have base := own_base I.own
  refine ⟨?_, ?_, ?_, ?_⟩
  · exact (I.vr.grown hg (fun e => by have := base _ e; omega)).kept (grown_setCell _ _ _ _) (by omega)
  · exact Vr.set2 (I.vt.grown hg (fun e => by have := base _ e; omega)) _
  · exact hown.kept (grown_setCell _ _ _ _) (.inr (fun e => by have := own_base hown _ e; omega))
  · have b8 : Below w.heap.size w w8 := I.below.grown hg I.below.size (fun k hk => by have := base k hk; omega)
    exact b8.setCell (show w.heap.size ≤ w.heap.size + 1 by omega) _
theorem oinv_drew {w wr : World} {m c q : Nat} {G : Nat → Nat} {v : Value} (I : OInv w wr m c q G v) : OInv w wr.drew m c q G v :=
  ⟨I.vr, I.vt, I.own, I.below.drew⟩
end Go.Proofs.Ytaoehildaenbnab
