/-
  Contracts of the matrices' reference: what fails in Pick.
-/
import Derived.Test.YtaoehildaenbnabSm
namespace Go.Proofs.Ytaoehildaenbnab
open Go.RowKit
/-- Two boxes: an argument and a result. -/
structure Box2 (w wb : World) (r c : Int) (n k : Nat) (a : Option Addr) : Prop where
  va : Vr wb w.heap.size (.int .i64 r) (.int .i64 c) (.slice a n k)
  vr : Vr wb (w.heap.size + 1) (.int .i64 0) (.int .i64 0) (.slice none 0 0)
  below : Below w.heap.size w wb
theorem box2 (w : World) (r c : Int) (n k : Nat) (a : Option Addr) : Box2 w ((w.alloc (.cells #[.int .i64 r, .int .i64 c, .slice a n k] 24)).alloc (.cells #[.int .i64 0, .int .i64 0, .slice none 0 0] 24)) r c n k a := by
  refine ⟨(Vr.new w _ _ _).later (alloc_low _ _), ?_, two_below (alloc_low _ _) (alloc_low _ _)⟩
  have := Vr.new (w.alloc (.cells #[.int .i64 r, .int .i64 c, .slice a n k] 24)) (.int .i64 0) (.int .i64 0) (.slice none 0 0)
  simpa using this
end Go.Proofs.Ytaoehildaenbnab
