/-
  Stage 21: copy into a longer piece; the blocks of the identity; flow.Matrix.
-/
import Derived.Test.YtkfnedpnkeacpaaQmmde00
import Derived.Test.YtkfnedpnkeacpaaQmmde41
import Derived.Test.YtkfnedpnkeacpaaQmmde15
import Derived.Test.YtkfnedpnkeacpaaQmmde16
set_option maxRecDepth 100000
set_option maxHeartbeats 16000000
namespace Go.Proofs.Ytkfnedpnkeacpaa
open Go.RowKit
theorem qcx {op : Oper} {a : Act} {w : World} {K : Act → World → Prop} {Q : Exit → Act → World → Prop} (d s : Operand) (ho : op.op = .call { callee := .builtin .copy, args := #[d, s], argTypes := #[22, 22] })
  (g p n c m dc sc : Nat) (dp sp : Option Addr) (f h : Nat → Nat) (hd : a.eval d = .slice dp m dc) (hs : a.eval s = .slice sp c sc) (hcm : c ≤ m) (hr : RowAt w g 5 n f) (hdp : 0 < c → dp = some ⟨g, p, none⟩) (hsl : Sl w sp c h) (hfit : p + c ≤ n)
  (k : ∀ w', Hid (RowAt w' g 5 n (cpf f h p c)) → Hid (w.grownBy w' (some g)) → K (a.put op.dst (goInt c)) w') : Oper.wp Try.prog op a w K Q := by
 by_cases h0 : c = 0
 ·subst h0
  have hrun := run_copy_none (P := Try.prog) w 22 22 op.type 5 dp sp m dc 0 sc Try.underlying22 size8 (Nat.zero_min _)
  unfold Oper.wp
  simp [execOp, ho, resolve, invoke, builtin, hd, hs, hrun, Result.andThen]
  exact k w (hr.congr (fun q _ => by unfold cpf; rw [if_neg (by omega)])) (qbg _ _)
 ·have hdp' := hdp (by omega)
  subst hdp'
  obtain ⟨b, o, e, _⟩ := hsl.2 0 (by omega)
  subst e
  have hsrc : ∀ j v, (row c h).toList[j]? = some v → w.cell? ((⟨b, o, none⟩ : Addr).add j) = some v := qba hsl (Below.refl _ _)
  have hrun := run_copy_row (P := Try.prog) w 22 22 op.type 5 g p m dc ⟨b, o, none⟩ c sc (row n f) 5 (row c h).toList Try.underlying22 size8 hr (by rw [show Nat.min c m = c from Nat.min_eq_left hcm]; simp [qa3]) hsrc (by simp [qa3]; exact hfit) (qaz c h)
  have hlen : (row c h).toList.length = c := by simp [qa3]
  rw [hlen, List.append_assoc, qey n p c f h hfit] at hrun
  unfold Oper.wp
  simp [execOp, ho, resolve, invoke, builtin, hd, hs, hrun, Result.andThen]
  exact k _ (setRow_heap w g _ _ _ _ hr) (qb0 _ _ _)
theorem qau {ops : Array Oper} {rest : List Oper} {op : Oper} {a : Act} {w : World} {Q : Exit → Act → World → Prop} (hgd : op.guard = none) (d s : Operand) (ho : op.op = .call { callee := .builtin .copy, args := #[d, s], argTypes := #[22, 22] })
  (g p n c m dc sc : Nat) (dp sp : Option Addr) (f h : Nat → Nat) (hd : a.eval d = .slice dp m dc) (hs : a.eval s = .slice sp c sc) (hcm : c ≤ m) (hr : RowAt w g 5 n f) (hdp : 0 < c → dp = some ⟨g, p, none⟩) (hsl : Sl w sp c h) (hfit : p + c ≤ n)
  (k : ∀ w', Hid (RowAt w' g 5 n (cpf f h p c)) → Hid (w.grownBy w' (some g)) → wpList Try.prog ops Q rest (a.put op.dst (goInt c)) w') : wpList Try.prog ops Q (op :: rest) a w :=
 wpList_plain hgd fun _ hK => qcx d s ho g p n c m dc sc dp sp f h hd hs hcm hr hdp hsl hfit (fun w' h1 h2 => hK _ _ (k w' h1 h2))
theorem qb4 : (Try.prog.info? 24).map (·.size) = some 3 := by kernel_rfl
/-- The block that is 1 at its own place alone. -/
def unb (i j : Nat) : Nat := if i = j then 1 else 0
theorem qc0 (i j : Nat) : unb i j < 256 := by unfold unb; split <;> omega
/-- What the matrix of a flow has. -/
def mtf (F : Fl) (n p : Nat) : Nat := vlx F unb (F.out (p / n)).toNat (p % n)
theorem qfc (F : Fl) {n i j : Nat} (hj : j < n) : mtf F n (i * n + j) = vlx F unb (F.out i).toNat j := by
 unfold mtf
 rw [Nat.add_comm, Nat.add_mul_div_right _ _ (by omega), Nat.div_eq_of_lt hj, Nat.zero_add, Nat.add_mul_mod_self_right, Nat.mod_eq_of_lt hj]
/-- A list whose first k elements are own lists of n bytes. -/
structure Bs (w : World) (D g n k : Nat) (v : Nat → Value) (bt : Nat → Nat → Nat) : Prop where
 ga : Ga w g 22 n v
 el : ∀ i, i < k → w.ownsRow D 5 1 (v i) n (row n (bt i)).toList
 lt : g < D
theorem Bs.later {w w' : World} {D g n k : Nat} {v : Nat → Value} {bt : Nat → Nat → Nat} (h : Bs w D g n k v bt) (hb : Below w.heap.size w w') : Bs w' D g n k v bt :=
 ⟨h.ga.later hb, fun i hi => qad (h.el i hi) hb, h.lt⟩
theorem Bs.more {w : World} {D D' g n k : Nat} {v : Nat → Value} {bt : Nat → Nat → Nat} {u : Value} (h : Bs w D g n k v bt) (hu : w.ownsRow D' 5 1 u n (row n (bt k)).toList) (hD : D ≤ D') : Bs (w.setCell ⟨g, k, none⟩ u) D g n (k + 1) (fun j => if j = k then u else v j) bt := by
 have hlt := h.lt
 refine ⟨h.ga.set k u, fun i hi => ?_, h.lt⟩
 by_cases e : i = k
 ·subst e
  rw [if_pos rfl]
  exact qah (World.ownsRow.kept hu (qa1 _ _ _ _) (.inr fun e => by have := qa6 hu _ e; omega)) hD
 ·rw [if_neg e]
  have h1 := h.el i (by omega)
  exact World.ownsRow.kept h1 (qa1 _ _ _ _) (.inr fun e => by have := qa6 h1 _ e; omega)
theorem Bs.bl {w : World} {D g n : Nat} {v : Nat → Value} {bt : Nat → Nat → Nat} (h : Bs w D g n n v bt) (hx : ∀ i j, bt i j < 256) : ∃ A C, Bl w (some ⟨g, 0, none⟩) n n A C bt := by
 have key : ∀ i, ∃ t : Option Addr × Nat, i < n → v i = .slice t.1 n t.2 ∧ Sl w t.1 n (bt i) ∧ (t.1 = none → n = 0 ∧ t.2 = 0) ∧ n ≤ t.2 := by
  intro i
  by_cases hi : i < n
  ·have ho := h.el i hi
   obtain ⟨s, c, e, hs, _⟩ := qb6 ho (fun j _ => hx i j)
   refine ⟨(s, c), fun _ => ⟨e, hs, ?_⟩⟩
   rcases ho.2 with ⟨e1, e2⟩ | ⟨g2, cap, cur, e1, _, _, hc, _⟩
   ·rw [e] at e1; simp at e1; exact ⟨fun _ => ⟨e2, e1.2.2⟩, by omega⟩
   ·rw [e] at e1
    simp only [Value.slice.injEq] at e1
    exact ⟨fun e3 => (by rw [e1.1] at e3; cases e3), by rw [e1.2.2]; exact hc⟩
  ·exact ⟨(none, 0), fun h => absurd h hi⟩
 obtain ⟨T, hT⟩ := Classical.axiomOfChoice key
 exact ⟨fun i => (T i).1, fun i => (T i).2, ⟨⟨fun i hi => ⟨g, 0, rfl, by rw [Nat.zero_add, h.ga.cell i hi, (hT i hi).1]⟩, fun i hi => (hT i hi).2.1, fun i hi => (hT i hi).2.2.1⟩, fun i hi => (hT i hi).2.2.2⟩⟩
end Go.Proofs.Ytkfnedpnkeacpaa
