/-
  Contract of the matrices' reference: Stack.
-/
import Derived.Test.YtkffkhlaljeimaaQmmys00
import Derived.Test.YtkffkhlaljeimaaQmmys27
import Derived.Laws.AppendOwnNone
set_option maxRecDepth 100000
set_option maxHeartbeats 16000000
namespace Go.Proofs.Ytkffkhlaljeimaa
open Go.RowKit
theorem qad {ops : Array Oper} {op : Oper} {a : Act} {w : World} {K : Act → World → Prop} {Q : Exit → Act → World → Prop} (hgd : op.guard = none) (s x : Operand) (ho : op.op = .call { callee := .builtin .append, args := #[s, x], argTypes := #[29, 29] })
  (base n : Nat) (v : Value) (ls : List Value) (hs : a.eval s = v) (hown : w.ownsRow base 5 1 v n ls) (b : Option Addr) (m c : Nat) (G : Nat → Nat) (hx : a.eval x = .slice b m c) (hb : Sl w b m G) (h0 : b = none → m = 0 ∧ c = 0) (h63 : n + m ≤ 140737488351232) (hbase : base ≤ w.heap.size)
  (h : ∀ v' w', w'.ownsRow base 5 1 v' (n + m) (ls ++ (row m G).toList) → w.grownBy w' v.ownBlock → K (a.put op.dst v') w') : if Region.wanted op (yielded ops a.tmps) = true then Oper.wp Try.prog op a w K Q else K (a.put op.dst undef) w := by
 obtain ⟨i0, hi, hz0, hz1, hz2⟩ := info_parts info8
 have hw : Region.wanted op (yielded ops a.tmps) = true := by simp [Region.wanted, hgd]
 rw [if_pos hw]
 cases b with
 | none =>
  obtain ⟨rfl, rfl⟩ := h0 rfl
  have hrun := run_append_owned_none (P := Try.prog) (w := w) base 29 op.type 5 i0 1 Try.underlying29 hi v n ls hown
  unfold Oper.wp
  simp [execOp, ho, resolve, invoke, builtin, hs, hx, hrun, Result.andThen]
  exact h v w (by rw [qat, List.append_nil]; exact hown) ⟨rfl, rfl, rfl, Nat.le_refl _, fun _ _ _ => rfl⟩
 | some ad =>
  exact wp_append_own w s x 29 ho base 5 i0 (.int .u8 0) 1 1 Try.underlying29 hi hz0 hz1 hz2 rfl (by decide) v n ls hs hown ad m c (row m G).toList hx (by simp [qaq]) (qbm hb (Below.refl _ _)) (qbn m G) (by unfold maxLen; omega) (by omega) hbase (fun v' w' h1 h2 _ => h v' w' h1 h2)
end Go.Proofs.Ytkffkhlaljeimaa
