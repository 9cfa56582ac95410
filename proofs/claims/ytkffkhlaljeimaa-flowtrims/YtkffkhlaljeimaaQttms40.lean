/-
  Stage 21: Of, of the program, of a right matrix (made by gen33d.py).
-/
import Derived.Test.YtkffkhlaljeimaaQttms00
import Derived.Test.YtkffkhlaljeimaaQttms37
import Derived.Test.YtkffkhlaljeimaaQttms39
import Derived.Deep.RegionHeld
set_option maxRecDepth 100000
set_option maxHeartbeats 16000000
namespace Go.Proofs.Ytkffkhlaljeimaa
open Go.RowKit
theorem qac (w : World) : Below w.heap.size w w.drew := ⟨rfl, rfl, rfl, Nat.le_refl _, fun _ _ => rfl⟩
theorem all3s (a : Option Addr) (n k : Nat) (b : Option Addr) (m d : Nat) (c : Option Addr) (l e : Nat) : (#[.slice a n k, .slice b m d, .slice c l e] : Array Value).all (·.oneCell') = true := by simp [Value.oneCell']
theorem qad {w : World} {B : Nat} {e : TypeId} {s : Nat} {v : Value} {n : Nat} {xs : List Value} (h : w.ownsRow B e s v n xs) : ∃ a d, v = .slice a n d := by
 rcases h.2 with ⟨e1, h0⟩ | ⟨g, cap, cur, e1, _⟩
 ·exact ⟨none, 0, by rw [e1, h0]⟩
 ·exact ⟨_, _, e1⟩
theorem Tw.one {w : World} {B : Nat} {u : Value} {L : List Trm} (h : Tw w B u L) : ∀ x ∈ [u], x.oneCell' = true := by
 obtain ⟨a, d, rfl, _⟩ := h.form
 intro x hx
 rw [List.mem_singleton.1 hx]
 rfl
theorem Nw.form {w : World} {B : Nat} {v : Value} {N : List (List Trm)} (h : Nw w B v N) : ∃ a d, v = .slice a N.length d ∧ (a = none → N.length = 0 ∧ d = 0) := by
 obtain ⟨vs, k1, _⟩ := h
 rcases k1.2 with ⟨e, h0⟩ | ⟨g, cap, cur, e, _⟩
 ·exact ⟨none, 0, by rw [e, h0], fun _ => ⟨h0, rfl⟩⟩
 ·exact ⟨_, _, e, fun x => by cases x⟩
theorem qbb {w : World} {B B' : Nat} {e e' : TypeId} {s n : Nat} {v : Value} {xs ys : List Value} (h : w.ownsRow B e s v n xs) (h' : w.ownsRow B' e' s v n ys) : xs = ys := by
 rcases h.2 with ⟨e1, h0⟩ | ⟨g, cap, cur, e1, _, hg, _, _, _, ht⟩
 ·have l1 := h.1
  have l2 := h'.1
  rw [h0, Nat.zero_mul] at l1 l2
  rw [List.eq_nil_of_length_eq_zero l1, List.eq_nil_of_length_eq_zero l2]
 ·rcases h'.2 with ⟨e2, _⟩ | ⟨g', cap', cur', e2, _, hg', _, _, _, ht'⟩
  ·rw [e1] at e2; cases e2
  ·rw [e1] at e2
   cases e2
   rw [hg] at hg'
   have := Option.some.inj hg'
   injection this with h3
   rw [← ht, ← ht', h3]
theorem qaw {w : World} {B : Nat} {e T : TypeId} {s n b : Nat} {v : Value} {xs : List Value} {ys : Array Value} (h : w.ownsRow B e s v n xs) (hv : Vf w b T ys) (hne : e ≠ T) : v.ownBlock = none ∨ v.ownBlock ≠ some b := by
 cases hx : v.ownBlock with
 | none => exact .inl rfl
 | some g =>
  refine .inr fun e2 => ?_
  cases e2
  obtain ⟨c1, h1⟩ := qb1 h hx
  unfold Vf at hv
  rw [h1] at hv
  have := Option.some.inj hv
  injection this with _ h3
  exact hne h3
end Go.Proofs.Ytkffkhlaljeimaa
