/-
  Stage 22: the anchor.
-/
import Derived.Test.YthdgpmanijifoaaQbbst00
import Derived.Test.YthdgpmanijifoaaQbbst47
set_option maxRecDepth 100000
set_option maxHeartbeats 16000000
namespace Go.Proofs.Ythdgpmanijifoaa
open Go.RowKit
/-- The anchor's flow. -/
def qaa : Fl := { ni := 2, inp := fun i => (i : Int), nn := 2, nt := fun _ => 2, of := fun _ j => (j : Int), fc := fun i j => if i = 0 then (if j = 0 then 1 else 2) else (if j = 0 then 3 else 6), no := 2, out := fun i => (i : Int) + 2 }
theorem qd2 : MayP qaa := by
 refine ⟨by decide, by decide, fun i hi => ?_, fun i hi j hj => ?_, fun i hi => ?_⟩
 ·have hi : i < 2 := hi
  exact ⟨show (0 : Int) ≤ (i : Int) by omega, show (i : Int) < 64 by omega, fun h => show ((i - 1 : Nat) : Int) < (i : Int) by omega⟩
 ·have hi : i < 2 := hi
  have hj : j < 2 := hj
  refine ⟨?_, show (0 : Int) ≤ (j : Int) by omega, show (j : Int) < ((2 : Nat) : Int) + (i : Int) by omega, fun h => show ((j - 1 : Nat) : Int) < (j : Int) by omega⟩
  show (if i = 0 then (if j = 0 then 1 else 2) else (if j = 0 then 3 else 6) : Nat) ≠ 0
  split <;> split <;> decide
 ·have hi : i < 2 := hi
  exact ⟨show (0 : Int) ≤ (i : Int) + 2 by omega, show (i : Int) + 2 < ((2 : Nat) : Int) + ((2 : Nat) : Int) by omega⟩
theorem qbi (x : Ky) : k3 qaa x 2 = if ((0 : Int), (1 : Int), (2 : Nat)) = x then 2 else 0 := by
 have e0 : pky qaa 0 0 1 = (0, 1, 2) := by
  show (((0 : Nat) : Int), ((1 : Nat) : Int), fm 2 (finv 1)) = _
  rw [show fm 2 (finv 1) = 2 by kernel_rfl]
  rfl
 have e1 : pky qaa 1 0 1 = (0, 1, 2) := by
  show (((0 : Nat) : Int), ((1 : Nat) : Int), fm 6 (finv 3)) = _
  rw [show fm 6 (finv 3) = 2 by kernel_rfl]
  rfl
 show (0 + ((0 + (0 + (if pky qaa 0 0 1 = x then 1 else 0))) + 0)) + ((0 + (0 + (if pky qaa 1 0 1 = x then 1 else 0))) + 0) = _
 rw [e0, e1]
 split <;> rfl
theorem qd3 : bst qaa = ((0, 1, 2), 2) := by
 symm
 refine qct (.inr ⟨Nat.le_refl _, ?_, ?_, fun x hx => .inl ?_⟩)
 ·show 0 < k3 qaa (0, 1, 2) 2
  rw [qbi, if_pos rfl]
  decide
 ·show k3 qaa (0, 1, 2) 2 = 2
  rw [qbi, if_pos rfl]
 ·have hx : 0 < k3 qaa x 2 := hx
  rw [qbi] at hx
  split at hx
  ·rename_i h; exact h.symm
  ·omega
theorem qd4 : bstF qaa = ((0, 1, 2), 2) := by
 unfold bstF
 rw [if_pos (show Few qaa from ⟨by show 0 + 2 + 2 ≤ 512; decide, by show 2 < 4096; decide⟩), qd3]
end Go.Proofs.Ythdgpmanijifoaa
