/-
  Contracts of multiples, addProducts, Scale, Mac.
-/
import Derived.Test.YtkffkhlaljeimaaQmmys00
import Derived.Test.YtkffkhlaljeimaaQmmys07
import Derived.RegionTactic
import Derived.BigRegion
set_option maxRecDepth 100000
set_option maxHeartbeats 16000000
namespace Go.Proofs.Ytkffkhlaljeimaa
open Go.RowKit
theorem RowAt.put {w : World} {b : Nat} {t : TypeId} {n : Nat} {f : Nat → Nat} (h : RowAt w b t n f) (i v : Nat) (F : Nat → Nat) (hF : ∀ j, j < n → F j = if j = i then v else f j) : RowAt (w.setCell ⟨b, i, none⟩ (.int .u8 (v : Int))) b t n F :=
 (h.set i v).congr (fun j hj => (hF j hj).symm)
end Go.Proofs.Ytkffkhlaljeimaa
