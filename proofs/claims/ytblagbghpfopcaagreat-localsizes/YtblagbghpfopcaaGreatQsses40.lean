/-
  Contracts of the reference's Place and At.
  The reference's All; All's function value.
-/
import Derived.Test.YtblagbghpfopcaaGreatQsses00
import Derived.Test.YtblagbghpfopcaaGreatQsses39
import Derived.RangeFuncNested
import Derived.RangeFuncBound
import Derived.RangeFuncCalls
import Derived.RangeFuncLeaves
import Derived.Shelf.Abstract
import Derived.Shelf.RegionOpen
import Derived.WalkKit
import Derived.OwnWalkIn
import Derived.TacticsInMore
import Derived.LoopNIn
import Derived.LoopIn
set_option maxRecDepth 100000
set_option maxHeartbeats 16000000
namespace Go.Proofs.YtblagbghpfopcaaGreat
open Go.RowKit
theorem qfk (k : Nat) (w : World) (hk : k ≤ 64) :
  Calls Tryz.prog 47 #[.int .i64 (k : Int)] w fun e w' => e = .returned (.int .u64 ((2 ^ k - 1 : Nat) : Int)) ∧ w = w' := by
 obtain ⟨z, HZ⟩ : ∃ z : Nat, Hid ((2 ^ k - 1 : Nat) = z) := ⟨_, rfl⟩
 rw [HZ.out]
 go_enter Tryz.func47, Tryz.ntmps47
 go_wp2_with (go_at_call 67; refine (qe7 k _ hk).mono ?_; rintro e w' ⟨rfl, rfl⟩; rw [HZ.out])
 go_ret
 exact ⟨rfl, rfl⟩
theorem qjc (n k : Int) (w : World) :
  Calls Tryz.prog 77 #[.int .i64 n, .int .i64 k] w fun e w' => e = .returned (.func (.func 94) #[] #[.pointer (some ⟨w.heap.size, 0, none⟩), .pointer (some ⟨w.heap.size + 1, 0, none⟩)]) ∧ w'.cell? ⟨w.heap.size, 0, none⟩ = some (.int .i64 n) ∧ w'.cell? ⟨w.heap.size + 1, 0, none⟩ = some (.int .i64 k) ∧ w'.heap.size = w.heap.size + 2 ∧ Below w.heap.size w w' := by
 go_enter Tryz.func77, Tryz.ntmps77
 go_wp2
 go_ret
 refine ⟨rfl, ?_, ?_, by simp, jtwo (jlow _ _) (jlow _ _)⟩
 ·rw [cell_of_row _ _ 0 _ _ _ (heap_alloc2_old w (.cells #[.int .i64 n] 3) (.cells #[.int .i64 k] 3))]; rfl
 ·rw [cell_of_row _ _ 0 _ _ _ (heap_alloc2_new w (.cells #[.int .i64 n] 3) (.cells #[.int .i64 k] 3))]; rfl
end Go.Proofs.YtblagbghpfopcaaGreat
