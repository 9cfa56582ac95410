/-
  Contract of the reference: wide.
-/
import Derived.Test.YtfplhaelpbocjabGf
namespace Go.Proofs.Ytfplhaelpbocjab
open Go.RowKit
theorem elf_top (F R : Nat → Nat) {c top col q l : Nat} (hl : l < c) : elf F R c top col q (top * c + l) = F (top * c + l) := by
  unfold elf
  rw [dm1 hl, if_neg (fun h => h.2 rfl)]
end Go.Proofs.Ytfplhaelpbocjab
