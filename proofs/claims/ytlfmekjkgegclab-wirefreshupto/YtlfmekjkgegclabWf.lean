/-
  Contracts of Pow (all of it), Exp, Log, Inv, Div.
-/
import Derived.Test.YtlfmekjkgegclabWe
namespace Go.Proofs.Ytlfmekjkgegclab
open Go.RowKit
/-- What Pow answers: the power, and the error. -/
def pwv (a : Nat) (n : Int) : Nat := if n = 0 then 1 else if a = 0 then 0 else g (lg a * (inb n).toNat % 255)
def pwe (a : Nat) (n : Int) : Int := if a = 0 ∧ n < 0 then 5 else 0
theorem pwv_lt (a : Nat) (n : Int) : pwv a n < 256 := by
  unfold pwv; split
  · decide
  · split
    · decide
    · exact g_lt _
theorem ret_two {k : IntKind} {a b : Int} {c d : Int} (h : a = b) (h2 : c = d) : Ending.returned (.tuple #[.int k a, .int .i64 c]) = .returned (.tuple #[.int k b, .int .i64 d]) := by rw [h, h2]
theorem two_below {w w1 w2 : World} (h1 : Below w.heap.size w w1) (h2 : Below w1.heap.size w1 w2) : Below w.heap.size w w2 := h1.trans (h2.mono h1.size)
/-- What Inv answers. -/
def ive (a : Nat) : Int := if a = 0 then 5 else 0
theorem pwv_inv (a : Nat) (ha : a < 256) : pwv a (-1) = finv a := by
  unfold pwv finv
  rw [if_neg (by decide)]
  by_cases h : a = 0
  · simp [h]
  · rw [if_neg h, if_neg h, g_mod, show (inb (-1)).toNat = 254 from rfl]
    have h1 := (lg_at a ha h).1
    rw [← g_mod (255 - lg a), ← g_mod (lg a * 254)]
    congr 1
    omega
theorem pwe_inv (a : Nat) : pwe a (-1) = ive a := by simp [pwe, ive]
end Go.Proofs.Ytlfmekjkgegclab
