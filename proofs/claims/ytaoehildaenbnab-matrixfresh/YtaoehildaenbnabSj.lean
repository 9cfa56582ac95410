/-
  Contracts of the matrices' reference: what fails in Kron; Same.
-/
import Derived.Test.YtaoehildaenbnabSi
namespace Go.Proofs.Ytaoehildaenbnab
open Go.RowKit
/-- Three boxes: two arguments and a result. -/
structure Box3 (w wb : World) (r c r' c' : Int) (n k m d : Nat) (a b : Option Addr) : Prop where
  va : Vr wb w.heap.size (.int .i64 r) (.int .i64 c) (.slice a n k)
  vb : Vr wb (w.heap.size + 1) (.int .i64 r') (.int .i64 c') (.slice b m d)
  vr : Vr wb (w.heap.size + 1 + 1) (.int .i64 0) (.int .i64 0) (.slice none 0 0)
  below : Below w.heap.size w wb
theorem box3 (w : World) (r c r' c' : Int) (n k m d : Nat) (a b : Option Addr) : Box3 w (((w.alloc (.cells #[.int .i64 r, .int .i64 c, .slice a n k] 24)).alloc (.cells #[.int .i64 r', .int .i64 c', .slice b m d] 24)).alloc (.cells #[.int .i64 0, .int .i64 0, .slice none 0 0] 24)) r c r' c' n k m d a b := by
  refine ⟨((Vr.new w _ _ _).later (alloc_low _ _)).later (alloc_low _ _), ?_, ?_, two_below (two_below (alloc_low _ _) (alloc_low _ _)) (alloc_low _ _)⟩
  · have := (Vr.new (w.alloc (.cells #[.int .i64 r, .int .i64 c, .slice a n k] 24)) (.int .i64 r') (.int .i64 c') (.slice b m d)).later (alloc_low _ (.cells #[.int .i64 0, .int .i64 0, .slice none 0 0] 24))
    simpa using this
  · have := Vr.new ((w.alloc (.cells #[.int .i64 r, .int .i64 c, .slice a n k] 24)).alloc (.cells #[.int .i64 r', .int .i64 c', .slice b m d] 24)) (.int .i64 0) (.int .i64 0) (.slice none 0 0)
    simpa using this
end Go.Proofs.Ytaoehildaenbnab
