/-
  Contract of the matrices' reference: Pick.
-/
import Derived.Test.YtaoehildaenbnabSl
namespace Go.Proofs.Ytaoehildaenbnab
open Go.RowKit
/-- A slice of ints reads as q 0, q 1, .. -/
def Il (w : World) (b : Option Addr) (m : Nat) (q : Nat → Int) : Prop := ∀ i, i < m → ∃ x o, b = some ⟨x, o, none⟩ ∧ w.cell? ⟨x, o + i, none⟩ = some (.int .i64 (q i))
theorem Il.later {w w' : World} {b : Option Addr} {m : Nat} {q : Nat → Int} (h : Il w b m q) (hb : Below w.heap.size w w') : Il w' b m q := fun i hi => by
  obtain ⟨x, o, e, hc⟩ := h i hi
  exact ⟨x, o, e, by rw [hb.cell (p := ⟨x, o + i, none⟩) (cell_lt hc)]; exact hc⟩
/-- The picked rows' entries. -/
def pkf (F : Nat → Nat) (z : Nat → Nat) (c p : Nat) : Nat := F (z (p / c) * c + p % c)
theorem pkf_at (F : Nat → Nat) (z : Nat → Nat) (c i j : Nat) (hj : j < c) : pkf F z c (i * c + j) = F (z i * c + j) := by
  unfold pkf
  rw [Nat.mul_comm i c, Nat.mul_add_div (by omega), Nat.div_eq_of_lt hj, Nat.add_zero, Nat.mul_add_mod, Nat.mod_eq_of_lt hj]
theorem row_pkf (F : Nat → Nat) (z : Nat → Nat) (c i : Nat) : (row (i * c) (pkf F z c)).toList ++ (row c (fun j => F (z i * c + j))).toList = (row ((i + 1) * c) (pkf F z c)).toList := by
  rw [row_stf, Nat.add_mul, Nat.one_mul]
  congr 1
  apply row_congr
  intro p hp
  unfold stf
  by_cases h : p < i * c
  · rw [if_pos h]
  · rw [if_neg h]; show F (z i * c + (p - i * c)) = _; rw [← pkf_at F z c i (p - i * c) (by omega)]
    congr 1; omega
theorem wpList_append_list {ops : Array Oper} {rest : List Oper} {op : Oper} {a : Act} {w : World} {Q : Exit → Act → World → Prop} (hgd : op.guard = none) (s x : Operand) (ho : op.op = .call { callee := .builtin .append, args := #[s, x], argTypes := #[22, 22] })
    (base n : Nat) (v : Value) (ls : List Value) (hs : a.eval s = v) (hown : w.ownsRow base 5 1 v n ls) (b : Option Addr) (m c : Nat) (G : Nat → Nat) (hx : a.eval x = .slice b m c) (hb : Sl w b m G) (h0 : b = none → m = 0 ∧ c = 0) (h63 : n + m ≤ 140737488351232) (hbase : base ≤ w.heap.size)
    (h : ∀ v' w', w'.ownsRow base 5 1 v' (n + m) (ls ++ (row m G).toList) → w.grownBy w' v.ownBlock → wpList Try.prog ops Q rest (a.put op.dst v') w') : wpList Try.prog ops Q (op :: rest) a w :=
  wpList_plain hgd fun K hK => by
    have := step_append_list (ops := ops) (K := K) (Q := Q) hgd s x ho base n v ls hs hown b m c G hx hb h0 h63 hbase (fun v' w' h1 h2 => hK _ _ (h v' w' h1 h2))
    rwa [if_pos (by simp [Region.wanted, hgd])] at this
theorem own_none {w : World} {base n d : Nat} {s : Option Addr} {ls : List Value} (h : w.ownsRow base 5 1 (.slice s n d) n ls) : s = none → n = 0 ∧ d = 0 := by
  intro e
  rcases h.2 with ⟨e', h0⟩ | ⟨g, cap, cur, e', _⟩
  · simp at e'; exact ⟨h0, e'.2.2⟩
  · rw [e] at e'; simp at e'
/-- What the loops of Pick keep. -/
structure UInv (w w1 wr : World) (g4 r c n k m q : Nat) (a : Option Addr) (G : Nat → Nat) (v : Value) : Prop where
  vb : Vr wr w.heap.size (.int .i64 (r : Int)) (.int .i64 (c : Int)) (.slice a n k)
  vr : Vr wr (w.heap.size + 1) (.int .i64 0) (.int .i64 0) (.slice none 0 0)
  vt : Vr wr g4 (.int .i64 (m : Int)) (.int .i64 (c : Int)) v
  own : wr.ownsRow (g4 + 1) 5 1 v q (row q G).toList
  below : Below w1.heap.size w1 wr
theorem UInv.later {w w1 wr w5 : World} {r c n k m q : Nat} {a : Option Addr} {G : Nat → Nat} {v : Value} (I : UInv w w1 wr w1.heap.size r c n k m q a G v) (hb5 : Below wr.heap.size wr w5) : UInv w w1 w5 w1.heap.size r c n k m q a G v :=
  ⟨I.vb.later hb5, I.vr.later hb5, I.vt.later hb5, I.own.kept (grown_none.mpr hb5) (by cases hv : v.ownBlock <;> simp), two_below I.below hb5⟩
theorem UInv.grown {w w1 w5 w8 : World} {r c n k m q q' cap : Nat} {gg : Option Addr} {a : Option Addr} {G : Nat → Nat} {v : Value} (I : UInv w w1 w5 w1.heap.size r c n k m q a G v)
    (hown : w8.ownsRow (w1.heap.size + 1) 5 1 (.slice gg q' cap) q' (row q' G).toList) (hg : w5.grownBy w8 v.ownBlock) (hw : w.heap.size + 1 < w1.heap.size) :
    UInv w w1 (w8.setCell ⟨w1.heap.size, 2, none⟩ (.slice gg q' cap)) w1.heap.size r c n k m q' a G (.slice gg q' cap) := by
  have base := own_base I.own
  refine ⟨?_, ?_, ?_, ?_, ?_⟩
  · exact (I.vb.grown hg (fun e => by have := base _ e; omega)).kept (grown_setCell _ _ _ _) (by omega)
  · exact (I.vr.grown hg (fun e => by have := base _ e; omega)).kept (grown_setCell _ _ _ _) (by omega)
  · exact Vr.set2 (I.vt.grown hg (fun e => by have := base _ e; omega)) _
  · exact hown.kept (grown_setCell _ _ _ _) (.inr (fun e => by have := own_base hown _ e; omega))
  · have b8 : Below w1.heap.size w1 w8 := I.below.grown hg I.below.size (fun k hk => by have := base k hk; omega)
    exact b8.setCell (Nat.le_refl _) _
end Go.Proofs.Ytaoehildaenbnab
