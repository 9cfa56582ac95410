/-
  The reference's Next: what its loop knows; of.
-/
import Derived.Test.YtblagbghpfopcaaQppts00
import Derived.Test.YtblagbghpfopcaaQppts17
set_option maxRecDepth 100000
set_option maxHeartbeats 16000000
namespace Go.Proofs.Ytblagbghpfopcaa
open Go.RowKit
theorem NxI.down {s n a c : Nat} : ∀ {b : Nat}, NxI s n b c → a ≤ b → b ≤ n → cn s a = cn s b → NxI s n a c := by
 intro b
 induction b with
 | zero => intro I h _ _; obtain rfl : a = 0 := (by omega); exact I
 | succ b ih =>
  intro I h hb e
  by_cases ha : a = b + 1
  ·rw [ha]; exact I
  ·have h1 := qe6 (s := s) (show a ≤ b by omega)
   have h2 := qah b s
   have h3 : bt s b = 0 := by omega
   exact ih (I.skip (by omega) h3) (by omega) (by omega) (by omega)
/-- Behind the number at place j - 1. -/
def pj (s n j : Nat) : Nat := if j = 0 then 0 else lf s n (j - 1) + 1
theorem qgn {s n : Nat} (hs : s < 18446744073709551616) (hn : n ≤ 64) : s &&& (18446744073709551615 - (2 ^ n - 1)) = 2 ^ n * (s / 2 ^ n) := by
 have h1 := Nat.two_pow_pos n
 have h2 : (18446744073709551616 : Nat) = 2 ^ n * 2 ^ (64 - n) := by rw [← Nat.pow_add, show n + (64 - n) = 64 by omega]
 have h3 := Nat.two_pow_pos (64 - n)
 have h4 : 18446744073709551615 - (2 ^ n - 1) = 2 ^ n * (2 ^ (64 - n) - 1) := by
  rw [Nat.mul_sub, ← h2]
  omega
 have h5 := qfc n s (18446744073709551615 - (2 ^ n - 1))
 rw [h4, Nat.mul_mod_right, Nat.and_zero, Nat.mul_div_cancel_left _ h1, Nat.and_two_pow_sub_one_eq_mod, Nat.zero_add] at h5
 rw [h4, h5, Nat.mod_eq_of_lt]
 rw [Nat.div_lt_iff_lt_mul h1, Nat.mul_comm, ← h2]
 exact hs
theorem j_andnot {s n A : Nat} (hs : s < 18446744073709551616) (hn : n ≤ 64) (hA : 2 ^ n - 1 = A) : ∃ z : Nat, bits .andNot .u64 (s : Int) (A : Int) = (z : Int) ∧ (z = 0 ↔ s < 2 ^ n) := by
 have h1 := qeb hn
 have h2 := Nat.two_pow_pos n
 refine ⟨2 ^ n * (s / 2 ^ n), ?_, ?_⟩
 ·rw [u64_andNot_nat s A hs (by omega), ← hA, qgn hs hn]
 ·constructor
  ·intro h
   rcases Nat.mul_eq_zero.1 h with h3 | h3
   ·omega
   ·apply Classical.byContradiction
    intro hn
    have := Nat.div_pos (Nat.le_of_not_lt hn) h2
    omega
  ·intro h
   rw [Nat.div_eq_of_lt h, Nat.mul_zero]
theorem qkp {s n : Nat} (hn : n ≤ 64) (h : s < 2 ^ n) (t : Nat) : lf s 64 t = lf s n t := by
 have h1 := (qf9 (s := s) (i := n) (64 - n) h).2 t
 rwa [show n + (64 - n) = 64 by omega] at h1
end Go.Proofs.Ytblagbghpfopcaa
