/-
  The anchor: one cell and one home that the document fixes.
-/
import Derived.Test.YtbhidokfclchlaaK1l
import Derived.Test.YtbhidokfclchlaaK1f
namespace Go.Proofs.Ytbhidokfclchlaa
open Go.RowKit
theorem JAt.jl {w : World} {g n : Nat} {T : TypeId} {K : IntKind} {f : Nat → Nat} (h : JAt w g T K n f) : Jl w (some ⟨g, 0, none⟩) K n (fun i => (f i : Int)) := fun i hi => ⟨g, 0, rfl, by rw [Nat.zero_add]; exact h.cell i hi⟩
theorem lit5 (w : World) : Jl (w.alloc (.cells #[.int .i64 0, .int .i64 0, .int .i64 0, .int .i64 1, .int .i64 1] 3)) (some ⟨w.heap.size, 0, none⟩) .i64 5 (fun i => ((hmv 2 5 2 0 (fun _ => 0) i : Nat) : Int)) := fun i hi => by
  refine ⟨w.heap.size, 0, rfl, ?_⟩
  rw [Nat.zero_add]
  have h := World.alloc_heap_new w (.cells #[.int .i64 0, .int .i64 0, .int .i64 0, .int .i64 1, .int .i64 1] 3)
  rcases (show i = 0 ∨ i = 1 ∨ i = 2 ∨ i = 3 ∨ i = 4 by omega) with rfl | rfl | rfl | rfl | rfl <;> (rw [cell_of_row _ _ _ _ _ _ h]; rfl)
set_option maxHeartbeats 1000000 in
theorem anch15 (w : World) : Calls Try.prog 7 #[] w fun e w' => e = .returned (.bool true) ∧ Below w.heap.size w w' := by
  have HA : Hid (∀ w, Calls Try.prog 10 #[.complex .f64 13830554455654793216 13830554455654793216] w fun e w' => e = .returned (.tuple #[.int .i64 6, .bool true]) ∧ Below w.heap.size w w') := fun w => pat w _ _ 6 (by decide) (Or.inl (by decide +kernel)) (Or.inl (by decide +kernel))
  have HH : Hid (∀ w, Calls Try.prog 11 #[.int .u8 2, .int .i64 5, .int .i64 2, .int .i64 0, .slice none 0 0] w fun e w' => ∃ g, e = .returned (.tuple #[.slice (some ⟨g, 0, none⟩) 5 5, .int .i64 0]) ∧ JAt w' g 3 .i64 5 (hmv 2 5 2 0 (fun _ => 0)) ∧ w.heap.size ≤ g ∧ Below w.heap.size w w') := fun w => phomes_ok 2 5 2 0 0 0 none (fun _ => 0) w (fun i hi => by omega) (by decide) (by decide)
  go_enter Try.func7, Try.ntmps7
  go_wp2_with (first
    | (go_at_call 10; refine (HA.out _).mono ?_; rintro e w1 ⟨rfl, hb⟩; have HB1 : Hid (Below w.heap.size w w1) := hb; clear hb)
    | (go_at_call 11; refine (HH.out _).mono ?_; rintro e w2 ⟨g, rfl, hj, -, hb⟩; have HB2 : Hid (Below w.heap.size w w2) := jtwo HB1.out hb; have HJ1 : Hid (Jl (w2.alloc (.cells #[.int .i64 0, .int .i64 0, .int .i64 0, .int .i64 1, .int .i64 1] 3)) (some ⟨g, 0, none⟩) .i64 5 (fun i => ((hmv 2 5 2 0 (fun _ => 0) i : Nat) : Int))) := hj.jl.later (jlow _ _); have HJ2 : Hid (Jl (w2.alloc (.cells #[.int .i64 0, .int .i64 0, .int .i64 0, .int .i64 1, .int .i64 1] 3)) (some ⟨w2.heap.size, 0, none⟩) .i64 5 (fun i => ((hmv 2 5 2 0 (fun _ => 0) i : Nat) : Int))) := lit5 w2; have HB3 : Hid (Below w.heap.size w (w2.alloc (.cells #[.int .i64 0, .int .i64 0, .int .i64 0, .int .i64 1, .int .i64 1] 3))) := jtwo HB2.out (jlow _ _); clear hb hj)
    | (go_at_call 12; refine (rints_same 5 5 5 _ _ _ _ (by decide) HJ1.out HJ2.out).mono ?_; rintro e w4 ⟨rfl, hb⟩; have HB4 : Hid (Below w.heap.size w w4) := jtwo HB3.out hb; clear hb))
  go_ret
  exact ⟨rfl, HB4.out⟩
end Go.Proofs.Ytbhidokfclchlaa
