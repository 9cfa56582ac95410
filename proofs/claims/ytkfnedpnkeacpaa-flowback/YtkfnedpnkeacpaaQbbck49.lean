/-
  Contracts of the program's matrices: combination, Mul.
  Contracts of the program's matrices: Mul's errors, Apply, Transpose.
  Contracts of the program's matrices: Transpose.
  Contracts of the program's matrices: Pick.
  Contracts of the program's matrices: ofRows, Of.
  Contracts of the program's matrices: Of.
  Contracts of the program's matrices: rowsOf.
  Contracts of the program's matrices: Stack.
  Contracts of the program's matrices: fillMultiples, Kron.
  The program's answers and the reference's, told alike: for each function what both answer.
  One product that the document fixes; what follows for products of matrices (grouped, transposed, applied, laid together); the program's answers by cases.
-/
import Derived.Test.YtkfnedpnkeacpaaQbbck00
import Derived.Test.YtkfnedpnkeacpaaQbbck22
import Derived.Deep.RegionHeld3
import Derived.Test.YtkfnedpnkeacpaaQbbck12
set_option maxRecDepth 100000
set_option maxHeartbeats 16000000
namespace Go.Proofs.Ytkfnedpnkeacpaa
open Go.RowKit
theorem Rt.turn {r c n : Nat} (h : Rt r c n) : Rt c r n := ⟨h.c64, h.r64, by rw [Nat.mul_comm]; exact h.len⟩
open Go.RowKit
theorem like_ans (w : World) (r c : Int) (a b : Option Addr) (n k d : Nat) (f h : Nat → Nat) (ha : Mt w a n k f) (hb : Mt w b n d h) (e : ∀ i, i < n → f i = h i) : Calls Try.prog 14 #[mv r c a n k, mv r c b n d] w fun e w' => e = .returned (.bool true) ∧ Below w.heap.size w w' := by
 have := qdz w r c r c a b n n k d f h ha.sl hb.sl
 rw [qe1 e] at this
 exact this
end Go.Proofs.Ytkfnedpnkeacpaa
