/-
  Contract of the reference's Mac.
-/
import Derived.Test.YtkffkhlaljeimaaQmmys00
import Derived.Test.YtkffkhlaljeimaaQmmys10
set_option maxRecDepth 100000
set_option maxHeartbeats 16000000
namespace Go.Proofs.Ytkffkhlaljeimaa
open Go.RowKit
/-- What is owned reads as a list. -/
theorem own_sl {w : World} {base : Nat} {v : Value} {n : Nat} {f : Nat → Nat} (h : w.ownsRow base 5 1 v n (row n f).toList) (hf : ∀ i, i < n → f i < 256) : ∃ a c, v = .slice a n c ∧ Sl w a n f ∧ From base a := by
 rcases h.2 with ⟨rfl, rfl⟩ | ⟨g, cap, cur, rfl, hb, hg, _, _, _, htake⟩
 ·exact ⟨none, 0, rfl, Sl.nil _ _ _, fun x hx => by cases hx⟩
 ·refine ⟨_, cap, rfl, ⟨hf, fun i hi => ⟨g, 0, rfl, ?_⟩⟩, fun x hx => by cases hx; exact hb⟩
  rw [Nat.zero_add, cell_of_row w g i cur _ _ hg]
  have e : (cur.toList.take (n * 1))[i]? = (row n f).toList[i]? := by rw [htake]
  rw [List.getElem?_take, if_pos (by omega)] at e
  rw [Array.getElem?_toList, Array.getElem?_toList, qb2 n f i hi] at e
  exact e
end Go.Proofs.Ytkffkhlaljeimaa
