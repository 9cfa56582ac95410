/-
  Products, what is sent, what is put together.
-/
import Derived.Test.YtblfldjlehjnbaaGo
namespace Go.Proofs.Ytblfldjlehjnbaa
open Go.RowKit
theorem el_span {F G : Nat → Nat} {r c : Nat} (hS : SpEq (m2 G r c) r (m2 F r c) r) : El2 (m2 G r c) := fun i j => by
  by_cases hi : i < r
  · exact (hS.1 i hi).el j
  · rw [m2_low G (by omega)]; decide
theorem apf_dt {F X : Nat → Nat} {r c : Nat} : ∀ i, i < r → apf F X c i = dt (m2 F r c i) X c := fun i hi => xs_congr (fun t ht => by rw [m2_at F hi ht])
end Go.Proofs.Ytblfldjlehjnbaa
