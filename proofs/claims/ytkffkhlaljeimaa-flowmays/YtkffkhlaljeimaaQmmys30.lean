/-
  Contract of the matrices' reference: Pick.
-/
import Derived.Test.YtkffkhlaljeimaaQmmys00
import Derived.Test.YtkffkhlaljeimaaQmmys29
set_option maxRecDepth 100000
set_option maxHeartbeats 16000000
namespace Go.Proofs.Ytkffkhlaljeimaa
open Go.RowKit
theorem qaa {ops : Array Oper} {rest : List Oper} {op : Oper} {a : Act} {w : World} {Q : Exit → Act → World → Prop} (hgd : op.guard = none) (s x : Operand) (ho : op.op = .call { callee := .builtin .append, args := #[s, x], argTypes := #[29, 29] })
  (base n : Nat) (v : Value) (ls : List Value) (hs : a.eval s = v) (hown : w.ownsRow base 5 1 v n ls) (b : Option Addr) (m c : Nat) (G : Nat → Nat) (hx : a.eval x = .slice b m c) (hb : Sl w b m G) (h0 : b = none → m = 0 ∧ c = 0) (h63 : n + m ≤ 140737488351232) (hbase : base ≤ w.heap.size)
  (h : ∀ v' w', w'.ownsRow base 5 1 v' (n + m) (ls ++ (row m G).toList) → w.grownBy w' v.ownBlock → wpList Try.prog ops Q rest (a.put op.dst v') w') : wpList Try.prog ops Q (op :: rest) a w :=
 wpList_plain hgd fun K hK => by
  have := qad (ops := ops) (K := K) (Q := Q) hgd s x ho base n v ls hs hown b m c G hx hb h0 h63 hbase (fun v' w' h1 h2 => hK _ _ (h v' w' h1 h2))
  rwa [if_pos (by simp [Region.wanted, hgd])] at this
end Go.Proofs.Ytkffkhlaljeimaa
