/-
  Contracts of copyOf, Sum, Dot.
  Contracts of multiples, addProducts, Scale, Mac.
  Contracts of addProducts, Scale, Mac.
  Contracts of Scale, Mac.
  Contracts of the reference's Dot, Scale, Mac.
  Contract of the reference's Mac.
  From what a law's shell tells of a slice that came in to what the contracts ask.
-/
import Derived.Test.YthdgpmanijifoaaQbbst00
import Derived.Test.YthdgpmanijifoaaQbbst07
import Derived.Laws.CopyOwn
import Derived.RegionTactic
import Derived.BigRegion
import Derived.Deep.QuietTactic
import Derived.BigQuiet
import Derived.Deep.RegionHeld3
import Derived.Deep.AppendLies
set_option maxRecDepth 100000
set_option maxHeartbeats 16000000
namespace Go.Proofs.Ythdgpmanijifoaa
open Go.RowKit
theorem RowAt.put {w : World} {b : Nat} {t : TypeId} {n : Nat} {f : Nat → Nat} (h : RowAt w b t n f) (i v : Nat) (F : Nat → Nat) (hF : ∀ j, j < n → F j = if j = i then v else f j) : RowAt (w.setCell ⟨b, i, none⟩ (.int .u8 (v : Int))) b t n F :=
 (h.set i v).congr (fun j hj => (hF j hj).symm)
open Go.RowKit
theorem qcn (a b : Nat) (w : World) (ha : a < 256) (hb : b < 256) : Calls Try.prog 26 #[.int .u8 (a : Int), .int .u8 (b : Int)] w fun e w' => e = .returned (.int .u8 (fm a b : Nat)) ∧ w = w' :=
 (qav a b w ha hb).mono fun _ _ h => ⟨h.1, h.2.symm⟩
end Go.Proofs.Ythdgpmanijifoaa
