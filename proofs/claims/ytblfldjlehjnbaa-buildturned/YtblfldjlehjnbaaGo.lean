/-
  The program's gauss and the reference's, together.
  The checks' own anchors.
  Ranks: of the matrix transposed, of the reduced one, and the free columns.
-/
import Derived.Test.YtblfldjlehjnbaaGj
import Derived.Test.YtblfldjlehjnbaaGn
import Derived.Test.YtblfldjlehjnbaaGc
namespace Go.Proofs.Ytblfldjlehjnbaa
open Go.RowKit
end Go.Proofs.Ytblfldjlehjnbaa

namespace Go.Proofs.Ytblfldjlehjnbaa
open Go.RowKit
theorem trf_el4 {F : Nat → Nat} {r c n : Nat} (hF : ∀ i, i < n → F i < 256) (R : Rt r c n) : ∀ p, p < n → trf F r c p < 256 := by
  intro p hp
  have R2 : Rt c r n := ⟨R.c64, R.r64, by rw [Nat.mul_comm]; exact R.len⟩
  obtain ⟨j, i, hj, hi, rfl⟩ := place_of R2 hp
  rw [trf_at F r c i j hi]
  exact hF _ (R.at hi hj)
end Go.Proofs.Ytblfldjlehjnbaa
