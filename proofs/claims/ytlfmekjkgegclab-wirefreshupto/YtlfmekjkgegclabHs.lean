/-
  A byte behind a list of the call's own, in a drawn region.
-/
import Derived.Test.YtlfmekjkgegclabHr
namespace Go.Proofs.Ytlfmekjkgegclab
open Go.RowKit
theorem step_append_jo {ops : Array Oper} {op : Oper} {a : Act} {w : World} {K : Act → World → Prop} {Q : Exit → Act → World → Prop} {E : Prop} (hgd : op.guard = none) (s x : Operand) (ho : op.op = .call { callee := .builtin .append, args := #[s, x], argTypes := #[22, 22] })
    (B n : Nat) (v : Value) (f : Nat → Nat) (hs : a.eval s = v) (hown : Jo w B 5 .u8 v n f) (ad : Addr) (y : Nat) (hx : a.eval x = .slice (some ad) 1 1) (hc : ∀ j u, [Value.int .u8 (y : Int)][j]? = some u → w.cell? (ad.add j) = some u) (hy : y = f n) (hlim : n + 1 ≤ 140737488355328) (hB : B ≤ w.heap.size)
    (h : ∀ v' w', Jo w' B 5 .u8 v' (n + 1) f → Below B w w' → K (a.put op.dst v') w') : if Region.wanted op (yielded ops a.tmps) = true then Oper.wp Try.prog op a w K Q else E := by
  obtain ⟨i0, hi, hz0, hz1, hz2⟩ := info_parts jbyte
  have hw : Region.wanted op (yielded ops a.tmps) = true := by simp [Region.wanted, hgd]
  rw [if_pos hw]
  refine wp_append_own w s x 22 ho B 5 i0 (.int .u8 0) 1 1 Try.underlying22 hi hz0 hz1 hz2 rfl (by decide) v n _ hs hown ad 1 1 [.int .u8 (y : Int)] hx rfl hc (jone_one _ _) (by unfold maxLen; omega) (by omega) hB (fun v' w' h1 h2 _ => h v' w' ?_ (jbelow h2 hB (fun k hk => (hown.base hk).1)))
  unfold Jo
  rw [jrow_congr .u8 (n + 1) f (fun i => if i = n then y else f i) (fun i _ => by split; rename_i e; rw [e, hy]; rfl), ← jrow_push]
  exact h1
end Go.Proofs.Ytlfmekjkgegclab
