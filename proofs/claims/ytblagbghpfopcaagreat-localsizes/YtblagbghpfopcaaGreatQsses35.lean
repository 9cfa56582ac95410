/-
  Contracts of the program's gauss: Solve, Combine.
-/
import Derived.Test.YtblagbghpfopcaaGreatQsses00
import Derived.Test.YtblagbghpfopcaaGreatQsses34
set_option maxRecDepth 100000
set_option maxHeartbeats 16000000
namespace Go.Proofs.YtblagbghpfopcaaGreat
open Go.RowKit
theorem RowAt.frs {w : World} {B g n : Nat} {f : Nat → Nat} (h : RowAt w g 5 n f) (hB : B ≤ g) (hn : n ≤ 4096) : Frs w B (some ⟨g, 0, none⟩) n n := ⟨Nat.le_refl _, by unfold maxLen; omega, (fun e => by cases e), fun x hx => by
 cases hx
 exact ⟨g, rfl, hB, fun i hi => ⟨⟨_, h.cell i hi⟩, h.free i⟩⟩⟩
end Go.Proofs.YtblagbghpfopcaaGreat
