/-
  The checks' own anchor: one place and one number that the document fixes.
-/
import Derived.Test.YtpmhpakjlagfjaaJf
namespace Go.Proofs.Ytpmhpakjlagfjaa
open Go.RowKit
set_option maxHeartbeats 400000 in
theorem anch6_any (w : World) : Calls Try.prog 25 #[] w fun e w' => e = .returned (.bool true) ∧ Below w.heap.size w w' := by
  have HP : Hid (∀ w : World, Calls Try.prog 28 #[.int .i64 4, .int .u64 6] w fun e w' => e = .returned (.tuple #[.int .i64 3, .int .i64 0]) ∧ Below w.heap.size w w') := fun w => jplace_ok 4 6 w (by omega) (by decide)
  have HC : Hid (∀ w : World, Calls Try.prog 19 #[.int .i64 5, .int .i64 2] w fun e w' => e = .returned (.tuple #[.int .i64 10, .int .i64 0]) ∧ Below w.heap.size w w') := fun w => jchoose_in 5 2 w (by omega) (by omega)
  go_enter Try.func25, Try.ntmps25
  go_wp2_with (first
    | (go_at_call 28; refine (HP.out _).mono ?_; rintro e w1 ⟨rfl, hb⟩; have HB1 : Hid (Below w.heap.size w w1) := hb; clear hb)
    | (go_at_call 19; refine (HC.out _).mono ?_; rintro e w2 ⟨rfl, hb⟩; have HB2 : Hid (Below w.heap.size w w2) := jtwo HB1.out hb; clear hb))
  go_ret
  exact ⟨rfl, HB2.out⟩
theorem u64_of_wf6 {n : Int} (h : (Lit.int .u64 n).wf = true) : ∃ x : Nat, n = (x : Int) ∧ x < 18446744073709551616 := by
  simp [Lit.wf, IntKind.min, IntKind.max, IntKind.signed, IntKind.bits] at h
  exact ⟨n.toNat, by omega, by omega⟩
theorem i64_of_wf6 {n : Int} (h : (Lit.int .i64 n).wf = true) : -9223372036854775808 ≤ n ∧ n ≤ 9223372036854775807 := by
  simp [Lit.wf, IntKind.min, IntKind.max, IntKind.signed, IntKind.bits] at h
  omega
end Go.Proofs.Ytpmhpakjlagfjaa
