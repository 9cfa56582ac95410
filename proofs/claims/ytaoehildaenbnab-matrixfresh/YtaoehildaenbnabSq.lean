/-
  Contracts of the matrices' reference: Same, Copy.
-/
import Derived.Test.YtaoehildaenbnabSp
namespace Go.Proofs.Ytaoehildaenbnab
open Go.RowKit
/-- Two boxes: two arguments. -/
structure Box2m (w wb : World) (r c r' c' : Int) (n k m d : Nat) (a b : Option Addr) : Prop where
  va : Vr wb w.heap.size (.int .i64 r) (.int .i64 c) (.slice a n k)
  vb : Vr wb (w.heap.size + 1) (.int .i64 r') (.int .i64 c') (.slice b m d)
  below : Below w.heap.size w wb
theorem box2m (w : World) (r c r' c' : Int) (n k m d : Nat) (a b : Option Addr) : Box2m w ((w.alloc (.cells #[.int .i64 r, .int .i64 c, .slice a n k] 24)).alloc (.cells #[.int .i64 r', .int .i64 c', .slice b m d] 24)) r c r' c' n k m d a b := by
  refine ⟨(Vr.new w _ _ _).later (alloc_low _ _), ?_, two_below (alloc_low _ _) (alloc_low _ _)⟩
  have := Vr.new (w.alloc (.cells #[.int .i64 r, .int .i64 c, .slice a n k] 24)) (.int .i64 r') (.int .i64 c') (.slice b m d)
  simpa using this
end Go.Proofs.Ytaoehildaenbnab
