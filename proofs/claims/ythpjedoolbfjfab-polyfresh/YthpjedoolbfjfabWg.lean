/-
  Contracts of the reference's times, Pow, Exp, Log, Inv, Div.
-/
import Derived.Test.YthpjedoolbfjfabWf
namespace Go.Proofs.Ythpjedoolbfjfab
open Go.RowKit
theorem pwv_times (a : Nat) (n : Int) (ha : a < 256) (h0 : a ≠ 0) : pwv a n = fpow a (inb n).toNat := by
  unfold pwv
  by_cases h : n = 0
  · subst h; rfl
  · rw [if_neg h, if_neg h0, g_mod, fpow_lg a _ ha h0]
theorem pwv_two (n : Int) : pwv 2 n = g (inb n).toNat := by
  rw [pwv_times 2 n (by decide) (by decide), fpow_lg 2 _ (by decide) (by decide), show lg 2 = 1 from by kernel_rfl, Nat.one_mul]
/-- What Log answers as its error. -/
def lge (a : Nat) : Int := if a = 0 then 5 else 0
theorem dbl_is (a : Nat) (h : a < 256) : fm a 2 = dbl a := by
  have := fm_dbl_r a 1 h (by decide)
  rw [fm_one a h] at this
  exact this
end Go.Proofs.Ythpjedoolbfjfab
