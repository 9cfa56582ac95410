/-
  Contracts of the matrices' reference: Identity, Row, Same.
  Contracts of the matrices' reference: Row, Same.
  The plain mathematics of sums and of polynomials over the field: no Go in sight. A polynomial is the function of its coefficients.
  Words for the matrices' products.
  Contract of the matrices' reference: Transpose.
  Contract of the matrices' reference: Mul.
  Contracts of the matrices' reference: what fails in Transpose and Mul; Apply.
  Contract of the matrices' reference: Kron.
  Contracts of the matrices' reference: what fails in Kron; Same.
  Contract of the matrices' reference: Stack.
  Contracts of the matrices' reference: what fails in Stack; Same; Copy.
  Contract of the matrices' reference: Pick.
  Contracts of the matrices' reference: what fails in Pick.
  Contracts of the matrices' reference: Of.
-/
import Derived.Test.YtkfnedpnkeacpaaQffsh06
import Derived.Test.YtkfnedpnkeacpaaQffsh00
import Derived.Test.YtkfnedpnkeacpaaQffsh07
import Derived.Deep.AppendLies
import Derived.Laws.AppendOwnNone
set_option maxRecDepth 100000
set_option maxHeartbeats 16000000
namespace Go.Proofs.Ytkfnedpnkeacpaa
open Go.RowKit
/-- Numbers of a matrix that is right. -/
structure Rt (r c n : Nat) : Prop where
 r64 : r ≤ 64
 c64 : c ≤ 64
 len : r * c = n
theorem Rt.p {r c n : Nat} (h : Rt r c n) : RightP r c n := ⟨by omega, by have := h.r64; omega, by omega, by have := h.c64; omega, by rw [← h.len]; simp⟩
theorem Rt.le {r c n : Nat} (h : Rt r c n) : n ≤ 4096 := by rw [← h.len]; exact Nat.mul_le_mul h.r64 h.c64
theorem Rt.at {r c n i j : Nat} (h : Rt r c n) (hi : i < r) (hj : j < c) : i * c + j < n := by
 rw [← h.len]
 exact Nat.lt_of_lt_of_le (show i * c + j < (i + 1) * c by rw [Nat.add_mul, Nat.one_mul]; omega) (Nat.mul_le_mul_right c hi)

/-! ### Sums -/
/-- The sum of f 0, .., f (n - 1). -/
def xs (f : Nat → Nat) : Nat → Nat
 | 0 => 0
 | n + 1 => xs f n ^^^ f n
/-! ### Products -/
open Go.RowKit
theorem keepc {w w' : World} {b o : Nat} {v : Value} (hb : Below w.heap.size w w') (h : w.cell? ⟨b, o, none⟩ = some v) : w'.cell? ⟨b, o, none⟩ = some v := by rw [hb.cell (p := ⟨b, o, none⟩) (qa5 h)]; exact h
theorem keeps {w : World} {b o g p : Nat} {v x : Value} (hne : b ≠ g) (h : w.cell? ⟨b, o, none⟩ = some x) : (w.setCell ⟨g, p, none⟩ v).cell? ⟨b, o, none⟩ = some x := (qa2 w g p v).cell h (by intro e; apply hne; simpa using e)
open Go.RowKit
theorem Vr.grown {w w' : World} {b : Nat} {x y z : Value} {row : Option Nat} (h : Vr w b x y z) (hg : w.grownBy w' row) (hne : row ≠ some b) : Vr w' b x y z := by unfold Vr; rw [hg.block b h.lt (fun e => hne e.symm)]; exact h
theorem own_sl' {w : World} {base : Nat} {v : Value} {n : Nat} {ls : List Value} (h : w.ownsRow base 5 1 v n ls) : ∃ s d, v = .slice s n d ∧ n ≤ d ∧ True := by
 rcases h.2 with ⟨e, h0⟩ | ⟨g, cap, cur, e, _, _, hc, _⟩
 ·subst h0; exact ⟨none, 0, e, Nat.le_refl _, trivial⟩
 ·exact ⟨_, cap, e, hc, trivial⟩
open Go.RowKit
theorem qbn {ops : Array Oper} {op : Oper} {a : Act} {w : World} {K : Act → World → Prop} {Q : Exit → Act → World → Prop} (hgd : op.guard = none) (s x : Operand) (ho : op.op = .call { callee := .builtin .append, args := #[s, x], argTypes := #[22, 22] })
  (base n : Nat) (v : Value) (ls : List Value) (hs : a.eval s = v) (hown : w.ownsRow base 5 1 v n ls) (b : Option Addr) (m c : Nat) (G : Nat → Nat) (hx : a.eval x = .slice b m c) (hb : Sl w b m G) (h0 : b = none → m = 0 ∧ c = 0) (h63 : n + m ≤ 140737488351232) (hbase : base ≤ w.heap.size)
  (h : ∀ v' w', w'.ownsRow base 5 1 v' (n + m) (ls ++ (row m G).toList) → w.grownBy w' v.ownBlock → K (a.put op.dst v') w') : if Region.wanted op (yielded ops a.tmps) = true then Oper.wp Try.prog op a w K Q else K (a.put op.dst undef) w := by
 obtain ⟨i0, hi, hz0, hz1, hz2⟩ := info_parts qcr
 have hw : Region.wanted op (yielded ops a.tmps) = true := by simp [Region.wanted, hgd]
 rw [if_pos hw]
 cases b with
 | none =>
  obtain ⟨rfl, rfl⟩ := h0 rfl
  have hrun := run_append_owned_none (P := Try.prog) (w := w) base 22 op.type 5 i0 1 Try.underlying22 hi v n ls hown
  unfold Oper.wp
  simp [execOp, ho, resolve, invoke, builtin, hs, hx, hrun, Result.andThen]
  exact h v w (by rw [qby, List.append_nil]; exact hown) ⟨rfl, rfl, rfl, Nat.le_refl _, fun _ _ _ => rfl⟩
 | some ad =>
  exact wp_append_own w s x 22 ho base 5 i0 (.int .u8 0) 1 1 Try.underlying22 hi hz0 hz1 hz2 rfl (by decide) v n ls hs hown ad m c (row m G).toList hx (by simp [qa6]) (qbz hb (Below.refl _ _)) (qc0 m G) (by unfold maxLen; omega) (by omega) hbase (fun v' w' h1 h2 _ => h v' w' h1 h2)
open Go.RowKit
theorem qbc {ops : Array Oper} {rest : List Oper} {op : Oper} {a : Act} {w : World} {Q : Exit → Act → World → Prop} (hgd : op.guard = none) (s x : Operand) (ho : op.op = .call { callee := .builtin .append, args := #[s, x], argTypes := #[22, 22] })
  (base n : Nat) (v : Value) (ls : List Value) (hs : a.eval s = v) (hown : w.ownsRow base 5 1 v n ls) (b : Option Addr) (m c : Nat) (G : Nat → Nat) (hx : a.eval x = .slice b m c) (hb : Sl w b m G) (h0 : b = none → m = 0 ∧ c = 0) (h63 : n + m ≤ 140737488351232) (hbase : base ≤ w.heap.size)
  (h : ∀ v' w', w'.ownsRow base 5 1 v' (n + m) (ls ++ (row m G).toList) → w.grownBy w' v.ownBlock → wpList Try.prog ops Q rest (a.put op.dst v') w') : wpList Try.prog ops Q (op :: rest) a w :=
 wpList_plain hgd fun K hK => by
  have := qbn (ops := ops) (K := K) (Q := Q) hgd s x ho base n v ls hs hown b m c G hx hb h0 h63 hbase (fun v' w' h1 h2 => hK _ _ (h v' w' h1 h2))
  rwa [if_pos (by simp [Region.wanted, hgd])] at this
open Go.RowKit
/-- Two boxes: an argument and a result. -/
structure Box2 (w wb : World) (r c : Int) (n k : Nat) (a : Option Addr) : Prop where
 va : Vr wb w.heap.size (.int .i64 r) (.int .i64 c) (.slice a n k)
 vr : Vr wb (w.heap.size + 1) (.int .i64 0) (.int .i64 0) (.slice none 0 0)
 below : Below w.heap.size w wb
theorem box2 (w : World) (r c : Int) (n k : Nat) (a : Option Addr) : Box2 w ((w.alloc (.cells #[.int .i64 r, .int .i64 c, .slice a n k] 24)).alloc (.cells #[.int .i64 0, .int .i64 0, .slice none 0 0] 24)) r c n k a := by
 refine ⟨(Vr.new w _ _ _).later (qa4 _ _), ?_, qai (qa4 _ _) (qa4 _ _)⟩
 have := Vr.new (w.alloc (.cells #[.int .i64 r, .int .i64 c, .slice a n k] 24)) (.int .i64 0) (.int .i64 0) (.slice none 0 0)
 simpa using this
open Go.RowKit
/-- A slice of lists: the i-th lies at A i, has the length L i and the room C i, and reads as f i 0, f i 1, .. -/
structure Rl (w : World) (b : Option Addr) (m : Nat) (A : Nat → Option Addr) (L C : Nat → Nat) (f : Nat → Nat → Nat) : Prop where
 at' : ∀ i, i < m → ∃ x o, b = some ⟨x, o, none⟩ ∧ w.cell? ⟨x, o + i, none⟩ = some (.slice (A i) (L i) (C i))
 sl : ∀ i, i < m → Sl w (A i) (L i) (f i)
 nil : ∀ i, i < m → A i = none → L i = 0 ∧ C i = 0
theorem Rl.later {w w' : World} {b : Option Addr} {m : Nat} {A : Nat → Option Addr} {L C : Nat → Nat} {f : Nat → Nat → Nat} (h : Rl w b m A L C f) (hb : Below w.heap.size w w') : Rl w' b m A L C f :=
 ⟨fun i hi => by
  obtain ⟨x, o, e, hc⟩ := h.at' i hi
  exact ⟨x, o, e, by rw [hb.cell (p := ⟨x, o + i, none⟩) (qa5 hc)]; exact hc⟩, fun i hi => (h.sl i hi).later hb, h.nil⟩
/-- The rows' entries, one behind the other. -/
def off (f : Nat → Nat → Nat) (c p : Nat) : Nat := f (p / c) (p % c)
end Go.Proofs.Ytkfnedpnkeacpaa
