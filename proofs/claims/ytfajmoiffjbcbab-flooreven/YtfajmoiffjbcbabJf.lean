/-
  Contracts of Place and At.
-/
import Derived.Test.YtfajmoiffjbcbabJe
namespace Go.Proofs.Ytfajmoiffjbcbab
open Go.RowKit
theorem pow_le_64 {n : Nat} (hn : n ≤ 64) : 2 ^ n ≤ 18446744073709551616 := Nat.pow_le_pow_right (n := 2) (by decide) hn
theorem lt_64 {s n : Nat} (hn : n ≤ 64) (h : s < 2 ^ n) : s < 18446744073709551616 := Nat.lt_of_lt_of_le h (pow_le_64 hn)
theorem cn_all {s n : Nat} (hn : n ≤ 64) (h : s < 2 ^ n) : cn s 64 = cn s n := by
  have h1 := (lf_high (s := s) (i := n) (64 - n) h).1
  rwa [show n + (64 - n) = 64 by omega] at h1
/-- Place, halfway: m are missing, x are alike, q are counted; P in all. -/
def PlI (s n j m x q P : Nat) : Prop := cn (s / 2 ^ j) (n - j) = m ∧ bin (n - j) m = x ∧ q + pla (s / 2 ^ j) (n - j) = P
theorem PlI.start {s n k x P : Nat} (hn : n ≤ 64) (hs : s < 2 ^ n) (hk : cn s 64 = k) (hx : bin n k = x) (hP : pla s n = P) : PlI s n 0 k x 0 P := by
  refine ⟨?_, hx, ?_⟩
  · rw [Nat.pow_zero, Nat.div_one, Nat.sub_zero, ← cn_all hn hs, hk]
  · rw [Nat.pow_zero, Nat.div_one, Nat.sub_zero, Nat.zero_add, hP]
theorem PlI.inn {s n j m x q P l : Nat} (I : PlI s n j m x q P) (hl : n - j = l + 1) (h : bt s j = 1) : 0 < m ∧ PlI s n (j + 1) (m - 1) (bw l m) q P := by
  obtain ⟨a, b, c⟩ := I
  have e : n - (j + 1) = l := by omega
  rw [hl] at a b c
  rw [cn_odd (show s / 2 ^ j % 2 = 1 from h), div_up] at a
  rw [pla_odd (show s / 2 ^ j % 2 = 1 from h), div_up] at c
  refine ⟨by omega, ?_, ?_, ?_⟩
  · rw [e]; omega
  · rw [e, ← a]; rfl
  · rw [e]; exact c
theorem PlI.out {s n j m x q P l : Nat} (I : PlI s n j m x q P) (hl : n - j = l + 1) (h : bt s j = 0) : bw l m ≤ x ∧ q + bw l m ≤ P ∧ PlI s n (j + 1) m (x - bw l m) (q + bw l m) P := by
  obtain ⟨a, b, c⟩ := I
  have e : n - (j + 1) = l := by omega
  rw [hl] at a b c
  rw [pla_even (show s / 2 ^ j % 2 = 0 from h), div_up, a] at c
  rw [cn_even (show s / 2 ^ j % 2 = 0 from h), div_up] at a
  have h1 := bin_bw l m
  refine ⟨by omega, by omega, ?_, ?_, ?_⟩
  · rw [e]; exact a
  · rw [e]; omega
  · rw [e]; omega
/-- At, halfway: z is made so far. -/
def AtI (n j m x q z R : Nat) : Prop := m ≤ 64 ∧ bin (n - j) m = x ∧ q < x ∧ z < 2 ^ j ∧ z + 2 ^ j * aset (n - j) m q = R
theorem AtI.inn {n j m x q z R l : Nat} (I : AtI n j m x q z R) (hl : n - j = l + 1) (h : q < bw l m) : 0 < m ∧ AtI n (j + 1) (m - 1) (bw l m) q (z + 2 ^ j) R := by
  obtain ⟨a, b, c, d, e⟩ := I
  have e1 : n - (j + 1) = l := by omega
  cases m with
  | zero => exact absurd h (Nat.not_lt_zero _)
  | succ m =>
    refine ⟨by omega, by omega, by rw [e1]; rfl, h, by rw [Nat.pow_succ]; omega, ?_⟩
    rw [e1, ← e, hl, aset_in h, Nat.pow_succ, Nat.mul_add, Nat.mul_assoc]
    omega
theorem AtI.out {n j m x q z R l : Nat} (I : AtI n j m x q z R) (hl : n - j = l + 1) (h : ¬ q < bw l m) : bw l m ≤ x ∧ AtI n (j + 1) m (x - bw l m) (q - bw l m) z R := by
  obtain ⟨a, b, c, d, e⟩ := I
  have e1 : n - (j + 1) = l := by omega
  rw [hl] at b e
  have h1 := bin_bw l m
  refine ⟨by omega, a, by rw [e1]; omega, by omega, by rw [Nat.pow_succ]; omega, ?_⟩
  rw [e1, ← e, aset_out h, Nat.pow_succ, Nat.mul_assoc]
end Go.Proofs.Ytfajmoiffjbcbab
