/-
  walk, Spiral, At.
-/
import Derived.Test.YtbhidokfclchlaaK1d
namespace Go.Proofs.Ytbhidokfclchlaa
open Go.RowKit
set_option maxHeartbeats 1000000 in
theorem pwalk (w : World) :
    Calls Try.prog 15 #[] w
      fun e w' => ∃ b0 b1 b2 b3, e = .returned (.func (.func 22) #[] #[.pointer (some ⟨b0, 0, none⟩), .pointer (some ⟨b1, 0, none⟩), .pointer (some ⟨b2, 0, none⟩), .pointer (some ⟨b3, 0, none⟩)]) ∧ Wk w' b0 b1 b2 b3 0 ∧ (w.heap.size ≤ b0 ∧ w.heap.size ≤ b1 ∧ w.heap.size ≤ b2 ∧ w.heap.size ≤ b3) ∧ Below w.heap.size w w' := by
  have hmf : ∀ (fn : Fn) (first cap : Array Value) (w : World), (Instr.makeFunc fn first cap).run Try.prog w = .ok (.func fn first cap) w := fun _ _ _ _ => rfl
  have p0 : Boxed ((w.alloc (.cells #[.complex .f64 0 0] 25)).alloc (.cells #[.complex .f64 0 0] 25)) w.heap.size 25 (.complex .f64 0 0) := (Boxed.new w _ _).alloc _
  have p1 : Boxed ((w.alloc (.cells #[.complex .f64 0 0] 25)).alloc (.cells #[.complex .f64 0 0] 25)) (w.heap.size + 1) 25 (.complex .f64 0 0) := by
    have := Boxed.new (w.alloc (.cells #[.complex .f64 0 0] 25)) 25 (.complex .f64 0 0)
    simpa using this
  have z0 := p0.frozen
  have z1 := p1.frozen
  have c0 := p0.cell
  have c1 := p1.cell
  clear p0 p1
  go_enter Try.func15, Try.ntmps15
  go_wp2_with (first | simp only [run_store_cx c0 z0] | simp only [run_store_cx c1 z1])
  go_ret
  have e0 : Boxed (w.alloc (.cells #[.complex .f64 0 0] 25)) w.heap.size 25 (.complex .f64 0 0) := Boxed.new w _ _
  obtain ⟨w1, hw1⟩ : ∃ w1, w1 = w.alloc (.cells #[.complex .f64 0 0] 25) := ⟨_, rfl⟩
  have s1 : w1.heap.size = w.heap.size + 1 := by rw [hw1]; simp
  have B1 : Below w.heap.size w w1 := by rw [hw1]; exact (Below.refl _ _).alloc (Nat.le_refl _) _
  rw [← hw1] at e0 ⊢
  clear hw1 z0 z1 c0 c1
  have e1 : Boxed (w1.alloc (.cells #[.complex .f64 4607182418800017408 0] 25)) w1.heap.size 25 (.complex .f64 4607182418800017408 0) := Boxed.new w1 _ _
  have f0 := e0.alloc (.cells #[.complex .f64 4607182418800017408 0] 25)
  obtain ⟨w2, hw2⟩ : ∃ w2, w2 = w1.alloc (.cells #[.complex .f64 4607182418800017408 0] 25) := ⟨_, rfl⟩
  have s2 : w2.heap.size = w1.heap.size + 1 := by rw [hw2]; simp
  have B2 : Below w.heap.size w w2 := by rw [hw2]; exact B1.alloc (by omega) _
  rw [← hw2] at e1 f0 ⊢
  clear hw2
  have e2 : Boxed (w2.alloc (.cells #[.int .i64 0] 3)) w2.heap.size 3 (.int .i64 0) := Boxed.new w2 _ _
  have g0 := f0.alloc (.cells #[.int .i64 0] 3)
  have g1 := e1.alloc (.cells #[.int .i64 0] 3)
  obtain ⟨w3, hw3⟩ : ∃ w3, w3 = w2.alloc (.cells #[.int .i64 0] 3) := ⟨_, rfl⟩
  have s3 : w3.heap.size = w2.heap.size + 1 := by rw [hw3]; simp
  have B3 : Below w.heap.size w w3 := by rw [hw3]; exact B2.alloc (by omega) _
  rw [← hw3] at e2 g0 g1 ⊢
  clear hw3
  have e3 : Boxed (w3.alloc (.cells #[.int .i64 1] 3)) w3.heap.size 3 (.int .i64 1) := Boxed.new w3 _ _
  have h0 := g0.alloc (.cells #[.int .i64 1] 3)
  have h1 := g1.alloc (.cells #[.int .i64 1] 3)
  have h2 := e2.alloc (.cells #[.int .i64 1] 3)
  rw [show w3.heap.size = w.heap.size + 3 by omega] at e3
  rw [show w2.heap.size = w.heap.size + 2 by omega] at h2
  rw [s1] at h1
  exact ⟨w.heap.size, w.heap.size + 1, w.heap.size + 3, w.heap.size + 2, rfl, ⟨⟨0, 0, h0, Or.inl (by decide +kernel), Or.inl (by decide +kernel)⟩, ⟨_, _, h1, Or.inl (by decide +kernel), Or.inl (by decide +kernel)⟩, e3, h2, by omega⟩, by omega, B3.alloc (by omega) _⟩
end Go.Proofs.Ytbhidokfclchlaa
