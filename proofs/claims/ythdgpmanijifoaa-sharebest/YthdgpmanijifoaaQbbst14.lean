/-
  Drawn regions whose last operation waits for all others: it may be left for behind the region.
-/
import Derived.Test.YthdgpmanijifoaaQbbst00
import Derived.OrdersHeld
import Derived.KernelRfl
import Derived.Deep.RegionHeld
set_option maxRecDepth 100000
set_option maxHeartbeats 16000000
namespace Go.Proofs.Ythdgpmanijifoaa
variable {P : Program} {ops : Array Oper} {md : Region.Mode}
end Go.Proofs.Ythdgpmanijifoaa
