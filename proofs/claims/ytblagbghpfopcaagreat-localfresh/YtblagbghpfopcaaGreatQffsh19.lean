/-
  The reference's Next: what its loop knows; of.
-/
import Derived.Test.YtblagbghpfopcaaGreatQffsh00
import Derived.Test.YtblagbghpfopcaaGreatQffsh18
set_option maxRecDepth 100000
set_option maxHeartbeats 16000000
namespace Go.Proofs.YtblagbghpfopcaaGreat
open Go.RowKit
theorem NxI.down {s n a c : Nat} : ∀ {b : Nat}, NxI s n b c → a ≤ b → b ≤ n → cn s a = cn s b → NxI s n a c := by
 intro b
 induction b with
 | zero => intro I h _ _; obtain rfl : a = 0 := (by omega); exact I
 | succ b ih =>
  intro I h hb e
  by_cases ha : a = b + 1
  ·rw [ha]; exact I
  ·have h1 := qd0 (s := s) (show a ≤ b by omega)
   have h2 := qal b s
   have h3 : bt s b = 0 := by omega
   exact ih (I.skip (by omega) h3) (by omega) (by omega) (by omega)
/-- Behind the number at place j - 1. -/
def pj (s n j : Nat) : Nat := if j = 0 then 0 else lf s n (j - 1) + 1
theorem qgl (s n i : Nat) : pj s n (i + 1) = lf s n i + 1 := if_neg (by omega)
theorem pj_cn {s n j : Nat} (hj : j ≤ cn s n) : cn s (pj s n j) = j ∧ pj s n j ≤ n := by
 cases j with
 | zero => exact ⟨rfl, Nat.zero_le _⟩
 | succ i =>
  obtain ⟨a, b, c⟩ := qaj (show i < cn s n by omega)
  rw [qgl, qal, b, c]
  exact ⟨rfl, a⟩
/-- The reference's Next, halfway: from place j on nothing rises. -/
def RnI (s n j : Nat) : Prop := NxI s n (pj s n j) (cn s n - j)
theorem RnI.start (s n : Nat) : RnI s n (cn s n) := by
 obtain ⟨a, b⟩ := pj_cn (Nat.le_refl (cn s n))
 unfold RnI
 rw [Nat.sub_self]
 exact (NxI.start s n).down b (Nat.le_refl _) a
theorem RnI.rise {s n i : Nat} (I : RnI s n (i + 1)) (hi : i < cn s n) (h : lf s n i + (cn s n - i) < n) : nx s n = some (ofs (nxt (lf s n) i) (cn s n)) := by
 obtain ⟨a, b, c⟩ := qaj hi
 unfold RnI at I
 rw [qgl] at I
 rw [I.rise a b (by omega), show cn s n - (i + 1) + 1 = cn s n - i by omega, ← ofs_nxt hi rfl (cn s n - i), show i + (cn s n - i) = cn s n by omega]
theorem RnI.stay {s n i : Nat} (I : RnI s n (i + 1)) (hi : i < cn s n) (h : ¬ lf s n i + (cn s n - i) < n) : RnI s n i := by
 obtain ⟨a, b, c⟩ := qaj hi
 obtain ⟨d, e⟩ := pj_cn (show i ≤ cn s n by omega)
 unfold RnI at I ⊢
 rw [qgl] at I
 have h1 := I.stay a b (by omega)
 rw [show cn s n - (i + 1) + 1 = cn s n - i by omega] at h1
 refine h1.down ?_ (by omega) (by rw [d, c])
 cases i with
 | zero => exact Nat.zero_le _
 | succ k =>
  rw [qgl]
  obtain ⟨a', b', c'⟩ := qaj (show k < cn s n by omega)
  apply Classical.byContradiction
  intro hn
  have := qd0 (s := s) (show lf s n (k + 1) ≤ lf s n k by omega)
  omega
theorem RnI.none {s n : Nat} (I : RnI s n 0) : nx s n = none := by
 have h := I.2
 rw [show pj s n 0 = 0 from rfl, Nat.pow_zero, Nat.div_one, Nat.sub_zero] at h
 exact h
theorem nxt_lt {s n i : Nat} (hi : i < cn s n) (h : lf s n i + (cn s n - i) < n) {t : Nat} (ht : t < cn s n) : nxt (lf s n) i t < n := by
 unfold nxt
 split
 ·exact (qaj ht).1
 ·omega
theorem qhu {s n : Nat} (hs : s < 18446744073709551616) (hn : n ≤ 64) : s &&& (18446744073709551615 - (2 ^ n - 1)) = 2 ^ n * (s / 2 ^ n) := by
 have h1 := Nat.two_pow_pos n
 have h2 : (18446744073709551616 : Nat) = 2 ^ n * 2 ^ (64 - n) := by rw [← Nat.pow_add, show n + (64 - n) = 64 by omega]
 have h3 := Nat.two_pow_pos (64 - n)
 have h4 : 18446744073709551615 - (2 ^ n - 1) = 2 ^ n * (2 ^ (64 - n) - 1) := by
  rw [Nat.mul_sub, ← h2]
  omega
 have h5 := qgi n s (18446744073709551615 - (2 ^ n - 1))
 rw [h4, Nat.mul_mod_right, Nat.and_zero, Nat.mul_div_cancel_left _ h1, Nat.and_two_pow_sub_one_eq_mod, Nat.zero_add] at h5
 rw [h4, h5, Nat.mod_eq_of_lt]
 rw [Nat.div_lt_iff_lt_mul h1, Nat.mul_comm, ← h2]
 exact hs
theorem qj9 {s n A : Nat} (hs : s < 18446744073709551616) (hn : n ≤ 64) (hA : 2 ^ n - 1 = A) : ∃ z : Nat, bits .andNot .u64 (s : Int) (A : Int) = (z : Int) ∧ (z = 0 ↔ s < 2 ^ n) := by
 have h1 := qf5 hn
 have h2 := Nat.two_pow_pos n
 refine ⟨2 ^ n * (s / 2 ^ n), ?_, ?_⟩
 ·rw [u64_andNot_nat s A hs (by omega), ← hA, qhu hs hn]
 ·constructor
  ·intro h
   rcases Nat.mul_eq_zero.1 h with h3 | h3
   ·omega
   ·apply Classical.byContradiction
    intro hn
    have := Nat.div_pos (Nat.le_of_not_lt hn) h2
    omega
  ·intro h
   rw [Nat.div_eq_of_lt h, Nat.mul_zero]
theorem qh6 {s n : Nat} (hn : n ≤ 64) (h : s < 2 ^ n) (t : Nat) : lf s 64 t = lf s n t := by
 have h1 := (qgd (s := s) (i := n) (64 - n) h).2 t
 rwa [show n + (64 - n) = 64 by omega] at h1
theorem rof_low (w : World) (m cap : Nat) (a : Option Addr) (f : Nat → Nat) (R : Nat) (hm : m ≤ 64) (ha : Jl w a .i64 m (fun i => (f i : Int))) (hf : ∀ i, i < m → f i < 64) (HR : Hid (ofs f m = R)) :
  Calls Tryz.prog 80 #[.slice a m cap] w fun e w' => e = .returned (.int .u64 (R : Int)) ∧ w = w' := by
 have H : Hid (Calls Tryz.prog 100 #[.slice a m cap] w fun e w' => e = .returned (.tuple #[.int .u64 (R : Int), .int .i64 0]) ∧ w = w') := by
  have h := rof_any w m cap a (fun i => (f i : Int)) (by omega) ha
  rw [qmn (fun i hi => by have := hf i hi; show 0 ≤ (f i : Int) ∧ (f i : Int) < 64; omega)] at h
  rw [← HR.out]
  exact h
 clear HR ha
 go_enter Tryz.func80, Tryz.ntmps80
 go_wp2_with (go_at_call 100; refine H.out.mono ?_; rintro e w' ⟨rfl, rfl⟩)
 go_ret
 exact ⟨rfl, rfl⟩
end Go.Proofs.YtblagbghpfopcaaGreat
