/-
  Contracts of the field's plain calls: Add, double, Mul, and the reference's Mul.
-/
import Derived.Test.YtkffkhlaljeimaaQttms00
import Derived.Test.YtkffkhlaljeimaaRows
import Derived.WalkKit
import Derived.WalkSpells
import Derived.WalkLawsBesides
import Derived.ProofKit
set_option maxRecDepth 100000
set_option maxHeartbeats 16000000

