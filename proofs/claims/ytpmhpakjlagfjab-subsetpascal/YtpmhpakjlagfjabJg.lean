/-
  The checks' own anchor: one place and one number that the document fixes.
-/
import Derived.Test.YtpmhpakjlagfjabJf
namespace Go.Proofs.Ytpmhpakjlagfjab
open Go.RowKit
set_option maxHeartbeats 400000 in
theorem anch6_any (w : World) : Calls Try.prog 6 #[] w fun e w' => e = .returned (.bool true) ∧ Below w.heap.size w w' := by
  have HP : Hid (∀ w : World, Calls Try.prog 9 #[.int .i64 4, .int .u64 6] w fun e w' => e = .returned (.tuple #[.int .i64 3, .int .i64 0]) ∧ Below w.heap.size w w') := fun w => jplace_ok 4 6 w (by omega) (by decide)
  have HC : Hid (∀ w : World, Calls Try.prog 4 #[.int .i64 5, .int .i64 2] w fun e w' => e = .returned (.tuple #[.int .i64 10, .int .i64 0]) ∧ Below w.heap.size w w') := fun w => jchoose_in 5 2 w (by omega) (by omega)
  go_enter Try.func6, Try.ntmps6
  go_wp2_with (first
    | (go_at_call 9; refine (HP.out _).mono ?_; rintro e w1 ⟨rfl, hb⟩; have HB1 : Hid (Below w.heap.size w w1) := hb; clear hb)
    | (go_at_call 4; refine (HC.out _).mono ?_; rintro e w2 ⟨rfl, hb⟩; have HB2 : Hid (Below w.heap.size w w2) := jtwo HB1.out hb; clear hb))
  go_ret
  exact ⟨rfl, HB2.out⟩
end Go.Proofs.Ytpmhpakjlagfjab
