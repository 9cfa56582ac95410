/-
  Stage 21: copy into a longer piece; the blocks of the identity; flow.Matrix.
  Stage 21: flow.Matrix.
  Stage 21: the reference's Matrix.
-/
import Derived.Test.YtkfnedpnkeacpaaQffsh00
import Derived.Test.YtkfnedpnkeacpaaQffsh38
import Derived.Test.YtkfnedpnkeacpaaQffsh12
import Derived.Test.YtkfnedpnkeacpaaQffsh13
import Derived.Test.YtkfnedpnkeacpaaQffsh07
import Derived.Laws.AppendOwnNone
set_option maxRecDepth 100000
set_option maxHeartbeats 16000000
namespace Go.Proofs.Ytkfnedpnkeacpaa
open Go.RowKit
theorem qau (x y : Int) (s : Option Addr) (n d : Nat) : (#[Value.int .i64 x, .int .i64 y, .slice s n d]).all (·.oneCell') = true := by simp [Value.oneCell']
/-- What lies beside is kept. -/
theorem Ou.beside {w w' : World} {base g n k T b : Nat} {B : Nat → Nat} {x : Nat → Nat → Nat} (h : Ou w base g n k T B x) (hg : w.grownBy w' (some b)) (hb : b < base) (hne : b ≠ g) : Ou w' base g n k T B x :=
 ⟨h.ga.kept hg (fun e => hne (Option.some.inj e)), fun o ho => (h.row o ho).kept hg (by have := (h.ne o ho).1; omega), h.ne, h.inj⟩
open Go.RowKit
theorem Bo.bw2 {w : World} {B : Nat} {a : Option Addr} {n d L : Nat} {x : Nat → Nat → Nat} (h : Bo w B (.slice a n d) n L x) (hx : ∀ i j, i < n → j < L → x i j < 256) (hL : L ≤ 140737488351232) : ∃ (A : Nat → Option Addr) (C : Nat → Nat), Bw w a n A (fun _ => L) C x := by
 have key : ∀ i, ∃ t : Option Addr × Nat, i < n → (∃ g, a = some ⟨g, 0, none⟩ ∧ w.cell? ⟨g, i, none⟩ = some (.slice t.1 L t.2)) ∧ Sl w t.1 L (x i) ∧ (t.1 = none → L = 0 ∧ t.2 = 0) ∧ L ≤ t.2 := by
  intro i
  by_cases hi : i < n
  ·obtain ⟨g, u, ea, hc, ho⟩ := h.cell i hi
   obtain ⟨s, c, rfl, hs, _⟩ := qbl ho (fun j hj => hx i j hi hj)
   refine ⟨(s, c), fun _ => ⟨⟨g, ea, hc⟩, hs, ?_⟩⟩
   rcases ho.2 with ⟨e1, e2⟩ | ⟨g2, cap, cur, e1, _, _, hcp, _⟩
   ·simp at e1; exact ⟨fun _ => ⟨e2, e1.2.2⟩, by omega⟩
   ·simp only [Value.slice.injEq] at e1
    exact ⟨fun e => (by rw [e1.1] at e; cases e), by rw [e1.2.2]; exact hcp⟩
  ·exact ⟨(none, 0), fun h => absurd h hi⟩
 obtain ⟨T, hT⟩ := Classical.axiomOfChoice key
 exact ⟨fun i => (T i).1, fun i => (T i).2, ⟨⟨fun i hi => by
  obtain ⟨g, e, hc⟩ := (hT i hi).1
  exact ⟨g, 0, e, by rw [Nat.zero_add]; exact hc⟩, fun i hi => (hT i hi).2.1, fun i hi => (hT i hi).2.2.1⟩, fun i hi => (hT i hi).2.2.2, fun _ _ => hL⟩⟩
end Go.Proofs.Ytkfnedpnkeacpaa
