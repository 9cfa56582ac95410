/-
  Stage 21: areEnough.
  Stage 21: multiple.
  Stage 21: Cost of both sides (made by gen34a.py).
  Stage 21: to trim once more changes nothing; the trimmed flow costs no more.
  Stage 21: what comes out of a flow, whatever the values are, and what trimming leaves of it.
  Stage 21: the sum of terms, place by place; values of pieces of blocks.
  Stage 21: sumOf.
  Stage 21: valuesOf.
  Stage 21: outsOf.
  Stage 21: flow.Run.
  Stage 21: own lists of blocks; the reference's Run.
  Stage 21: the reference's Run.
-/
import Derived.Test.YthdgpmanijifoaaQbbst25
import Derived.Test.YthdgpmanijifoaaQbbst09
import Derived.Lib.MinMax
import Derived.Test.YthdgpmanijifoaaQbbst38
import Derived.Test.YthdgpmanijifoaaQbbst34
import Derived.Test.YthdgpmanijifoaaQbbst00
import Derived.Test.YthdgpmanijifoaaQbbst37
import Derived.Deep.RegionHeld3
import Derived.Test.YthdgpmanijifoaaQbbst15
import Derived.Test.YthdgpmanijifoaaQbbst31
import Derived.Test.YthdgpmanijifoaaQbbst08
set_option maxRecDepth 100000
set_option maxHeartbeats 16000000
namespace Go.Proofs.Ythdgpmanijifoaa
open Go.RowKit
theorem tn_high {F : Fl} {v : Nat} (h : F.ni ≤ v) : tn F v = F.nt (v - F.ni) := if_neg (by omega)
open Go.RowKit
theorem FlR.fc8 {w : World} {a b c : Option Addr} {F : Fl} (h : FlR w a b c F) {v j : Nat} (h1 : F.ni ≤ v) (h2 : v < F.ni + F.nn) (h3 : j < tn F v) : F.fc (v - F.ni) j < 256 := by
 obtain ⟨_, x, o, t, d, _, _, ht⟩ := h.nodes (v - F.ni) (by omega)
 rw [tn_high h1] at h3
 exact (ht j h3).1
end Go.Proofs.Ythdgpmanijifoaa
