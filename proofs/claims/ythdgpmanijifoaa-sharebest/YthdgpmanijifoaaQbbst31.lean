/-
  Stage 21: numbers that have a property, in order; usedColumns.
  Stage 21: lists of terms and of nodes of the call's own; termsOfRow.
-/
import Derived.Test.YthdgpmanijifoaaQbbst00
import Derived.Test.YthdgpmanijifoaaQbbst18
import Derived.Test.YthdgpmanijifoaaQbbst30
set_option maxRecDepth 100000
set_option maxHeartbeats 16000000
namespace Go.Proofs.Ythdgpmanijifoaa
open Go.RowKit
abbrev Trm := Int × Nat
end Go.Proofs.Ythdgpmanijifoaa
