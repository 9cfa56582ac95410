/-
  Contracts of the wire's reference: ReadText.
-/
import Derived.Test.YtlfmekjkgegclabHf
namespace Go.Proofs.Ytlfmekjkgegclab
open Go.RowKit
/-- A piece of a list: its address (a piece without room keeps the list's). -/
def pca (b o p c : Nat) : Option Addr := if c = p then some ⟨b, o, none⟩ else some ⟨b, o + p, none⟩
theorem sl_part {w : World} {b o n c p m : Nat} {f : Nat → Nat} (h : Sl w (some ⟨b, o, none⟩) n f) (hf : p + m ≤ n) (hnc : n ≤ c) : Sl w (pca b o p c) m (fun j => f (p + j)) := by
  refine ⟨fun i hi => h.1 _ (by omega), fun i hi => ?_⟩
  unfold pca
  rw [if_neg (by omega)]
  obtain ⟨b', o', e, hc⟩ := h.2 (p + i) (by omega)
  cases e
  exact ⟨b, o + p, rfl, by rw [Nat.add_assoc]; exact hc⟩
/-- Which error ReadText tells, where it tells one: most is below 0, the length's error, a length above most, too few bytes. -/
def RtE (f : Nat → Nat) (n : Nat) (most : Int) (E : Nat) : Prop := (most < 0 ∧ E = 2) ∨ (0 ≤ most ∧ ((∃ v s, RN f n v s E ∧ E ≠ 0) ∨ (∃ v s, RnOk f n v s ∧ (most < (v : Int) ∧ E = 4 ∨ (v : Int) ≤ most ∧ n < v + s ∧ E = 7))))
end Go.Proofs.Ytlfmekjkgegclab
