/-
  Stage 21: own lists of blocks; the reference's Run.
-/
import Derived.Test.YtkfnedpnkeacpaaQffsh00
import Derived.Test.YtkfnedpnkeacpaaQffsh34
import Derived.Test.YtkfnedpnkeacpaaQffsh15
import Derived.Test.YtkfnedpnkeacpaaQffsh03
set_option maxRecDepth 100000
set_option maxHeartbeats 16000000
namespace Go.Proofs.Ytkfnedpnkeacpaa
open Go.RowKit
/-- An own list of n own lists of L bytes each. -/
def Bo (w : World) (B : Nat) (v : Value) (n L : Nat) (x : Nat → Nat → Nat) : Prop := ∃ vs : List Value, w.ownsRow B 22 1 v n vs ∧ ∀ i, i < n → ∃ u, vs[i]? = some u ∧ w.ownsRow B 5 1 u L (row L (x i)).toList
theorem Bo.nil (w : World) (B L : Nat) (x : Nat → Nat → Nat) : Bo w B (.slice none 0 0) 0 L x := ⟨[], World.ownsRow_nil _ _ _ _, fun i h => by omega⟩
theorem qa8 {w w' : World} {B : Nat} {e : TypeId} {s n : Nat} {v : Value} {xs : List Value} (h : w.ownsRow B e s v n xs) (hb : Below w.heap.size w w') : w'.ownsRow B e s v n xs := World.ownsRow.kept h (jgrown.mpr hb) (by cases hv : v.ownBlock <;> simp)
theorem qar {w : World} {B B' : Nat} {e : TypeId} {s n : Nat} {v : Value} {xs : List Value} (h : w.ownsRow B e s v n xs) (hB : B' ≤ B) : w.ownsRow B' e s v n xs := by
 refine ⟨h.1, ?_⟩
 rcases h.2 with h0 | ⟨g, cap, cur, e1, hb, r⟩
 ·exact .inl h0
 ·exact .inr ⟨g, cap, cur, e1, by omega, r⟩
theorem Bo.later {w w' : World} {B : Nat} {v : Value} {n L : Nat} {x : Nat → Nat → Nat} (h : Bo w B v n L x) (hb : Below w.heap.size w w') : Bo w' B v n L x := by
 obtain ⟨vs, h1, h2⟩ := h
 refine ⟨vs, qa8 h1 hb, fun i hi => ?_⟩
 obtain ⟨u, hu, ht⟩ := h2 i hi
 exact ⟨u, hu, qa8 ht hb⟩
theorem Bo.congr {w : World} {B : Nat} {v : Value} {n L : Nat} {x x' : Nat → Nat → Nat} (h : Bo w B v n L x) (e : ∀ i, i < n → x i = x' i) : Bo w B v n L x' := by
 obtain ⟨vs, h1, h2⟩ := h
 refine ⟨vs, h1, fun i hi => ?_⟩
 rw [← e i hi]
 exact h2 i hi
theorem Bo.mono {w : World} {B B' : Nat} {v : Value} {n L : Nat} {x : Nat → Nat → Nat} (h : Bo w B v n L x) (hB : B' ≤ B) : Bo w B' v n L x := by
 obtain ⟨vs, h1, h2⟩ := h
 exact ⟨vs, qar h1 hB, fun i hi => by
  obtain ⟨u, hu, ht⟩ := h2 i hi
  exact ⟨u, hu, qar ht hB⟩⟩
theorem Bo.push {w w' : World} {B : Nat} {v v' u : Value} {n L : Nat} {x : Nat → Nat → Nat} {f : Nat → Nat} {vs : List Value} (k1 : w.ownsRow B 22 1 v n vs) (k2 : ∀ i, i < n → ∃ u, vs[i]? = some u ∧ w.ownsRow B 5 1 u L (row L (x i)).toList) (hu : w.ownsRow B 5 1 u L (row L f).toList)
  (o1 : w'.ownsRow B 22 1 v' (n + 1) (vs ++ [u])) (o2 : w.grownBy w' v.ownBlock) : Bo w' B v' (n + 1) L (fun i => if i = n then f else x i) := by
 have hl : vs.length = n := by have := k1.1; rw [Nat.mul_one] at this; exact this
 refine ⟨vs ++ [u], o1, fun i hi => ?_⟩
 by_cases hlt : i < n
 ·obtain ⟨y, hy, ht⟩ := k2 i hlt
  refine ⟨y, by rw [List.getElem?_append_left (by omega)]; exact hy, ?_⟩
  show w'.ownsRow B 5 1 y L (row L (if i = n then f else x i)).toList
  rw [if_neg (by omega)]
  exact World.ownsRow.kept ht o2 (qat ht k1 (by decide))
 ·obtain rfl : i = n := by omega
  refine ⟨u, by rw [List.getElem?_append_right (by omega), hl, Nat.sub_self]; rfl, ?_⟩
  show w'.ownsRow B 5 1 u L (row L (if i = i then f else x i)).toList
  rw [if_pos rfl]
  exact World.ownsRow.kept hu o2 (qat hu k1 (by decide))
theorem Bo.form {w : World} {B : Nat} {v : Value} {n L : Nat} {x : Nat → Nat → Nat} (h : Bo w B v n L x) : ∃ a d, v = .slice a n d ∧ (a = none → n = 0 ∧ d = 0) := by
 obtain ⟨vs, h1, _⟩ := h
 rcases h1.2 with ⟨e, h0⟩ | ⟨g, cap, cur, e, _⟩
 ·exact ⟨none, 0, by rw [e, h0], fun _ => ⟨h0, rfl⟩⟩
 ·exact ⟨_, _, e, fun x => by cases x⟩
/-- An element, read. -/
theorem Bo.cell {w : World} {B : Nat} {a : Option Addr} {n d L : Nat} {x : Nat → Nat → Nat} (h : Bo w B (.slice a n d) n L x) (i : Nat) (hi : i < n) : ∃ g u, a = some ⟨g, 0, none⟩ ∧ w.cell? ⟨g, i, none⟩ = some u ∧ w.ownsRow B 5 1 u L (row L (x i)).toList := by
 obtain ⟨vs, h1, h2⟩ := h
 obtain ⟨u, hu, ht⟩ := h2 i hi
 rcases h1.2 with ⟨e, h0⟩ | ⟨g, cap, cur, e, hb, hg, _, _, hs, htake⟩
 ·simp at e; omega
 ·simp only [Value.slice.injEq] at e
  refine ⟨g, u, e.1, ?_, ht⟩
  rw [cell_of_row w g i _ _ _ hg]
  rw [Nat.mul_one] at htake
  rw [← htake, List.getElem?_take, if_pos hi] at hu
  rw [← Array.getElem?_toList]
  exact hu
/-- Such a list is one of blocks. -/
theorem Bo.bw {w : World} {B : Nat} {a : Option Addr} {n d L : Nat} {x : Nat → Nat → Nat} (h : Bo w B (.slice a n d) n L x) (hx : ∀ i j, i < n → j < L → x i j < 256) : ∃ (A : Nat → Option Addr) (C : Nat → Nat), Rl w a n A (fun _ => L) C x := by
 have key : ∀ i, ∃ t : Option Addr × Nat, i < n → (∃ g, a = some ⟨g, 0, none⟩ ∧ w.cell? ⟨g, i, none⟩ = some (.slice t.1 L t.2)) ∧ Sl w t.1 L (x i) ∧ (t.1 = none → L = 0 ∧ t.2 = 0) := by
  intro i
  by_cases hi : i < n
  ·obtain ⟨g, u, ea, hc, ho⟩ := h.cell i hi
   obtain ⟨s, c, rfl, hs, _⟩ := qbl ho (fun j hj => hx i j hi hj)
   refine ⟨(s, c), fun _ => ⟨⟨g, ea, hc⟩, hs, fun e => ?_⟩⟩
   rcases ho.2 with ⟨e1, e2⟩ | ⟨g2, cap, cur, e1, _⟩
   ·simp at e1; exact ⟨e2, e1.2.2⟩
   ·simp only [Value.slice.injEq] at e1
    rw [e1.1] at e
    cases e
  ·exact ⟨(none, 0), fun h => absurd h hi⟩
 obtain ⟨T, hT⟩ := Classical.axiomOfChoice key
 exact ⟨fun i => (T i).1, fun i => (T i).2, ⟨fun i hi => by
  obtain ⟨g, e, hc⟩ := (hT i hi).1
  exact ⟨g, 0, e, by rw [Nat.zero_add]; exact hc⟩, fun i hi => (hT i hi).2.1, fun i hi => (hT i hi).2.2⟩⟩
end Go.Proofs.Ytkfnedpnkeacpaa
