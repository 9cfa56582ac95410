/-
  Contracts of the sets' reference: Full, pascal, Choose, Upto.
-/
import Derived.Test.YtfajmoiffjbcbabJh
import Derived.Test.YtfajmoiffjbcbabPk
namespace Go.Proofs.Ytfajmoiffjbcbab
open Go.RowKit
theorem ones_step {i : Nat} : (2 ^ i - 1) ||| 2 ^ i = 2 ^ (i + 1) - 1 := by
  have := Nat.two_pow_pos i
  rw [or_top (by omega), Nat.pow_succ]
  omega
set_option maxHeartbeats 400000 in
theorem rfull_ok (k : Nat) (w : World) (hk : k ≤ 64) :
    Calls Try.prog 5 #[.int .i64 (k : Int)] w fun e w' => e = .returned (.tuple #[.int .u64 ((2 ^ k - 1 : Nat) : Int), .int .i64 0]) ∧ w = w' := by
  have g1 : decide ((k : Int) < 0) = false := decide_eq_false (by omega)
  have g2 : decide ((64 : Int) < (k : Int)) = false := decide_eq_false (by omega)
  obtain ⟨R, HR⟩ : ∃ R : Nat, Hid ((2 ^ k - 1 : Nat) = R) := ⟨_, rfl⟩
  rw [HR.out]
  go_enter Try.func5, Try.ntmps5
  go_wp2
  go_loop [4, 5] (fun vz vi => ∃ i z : Nat, i ≤ k ∧ Hid ((2 ^ i - 1 : Nat) = z) ∧ vi = .int .i64 (i : Int) ∧ vz = .int .u64 (z : Int)) (fun _ vi => k - (intOf vi).toNat)
  case atStart => exact ⟨0, 0, by omega, rfl, rfl, rfl⟩
  case round =>
    obtain ⟨i, z, hi, HZ, rfl, rfl⟩ := hrel
    by_cases hlt : i < k
    · have hi6 : i < 64 := by omega
      obtain ⟨T, hT⟩ : ∃ T, 2 ^ i = T := ⟨_, rfl⟩
      obtain ⟨z', HZ'⟩ : ∃ z' : Nat, Hid ((2 ^ (i + 1) - 1 : Nat) = z') := ⟨_, rfl⟩
      have hp2 : IntKind.u64.wrap (2 ^ i) = (T : Int) := by rw [← hT]; exact j_pow i hi6
      have hT6 := j_pow_lt hi6
      have hor : bits .or .u64 (z : Int) (T : Int) = (z' : Int) := by
        rw [u64_or_nat z T (by rw [← HZ.out]; omega) (by omega), ← hT, ← HZ.out, ones_step, HZ'.out]
      clear hT hT6 HZ
      go_wp2
      exact ⟨⟨i + 1, z', by omega, HZ', by go_num, rfl⟩, by simp [intOf]; omega⟩
    · obtain rfl : i = k := by omega
      have HE : Hid (z = R) := by show _ = _; rw [← HZ.out, ← HR.out]
      clear HZ HR
      go_wp2
      go_ret2
      exact ⟨by rw [← HE.out]; rfl, rfl⟩
set_option maxHeartbeats 400000 in
theorem rfull_bad (n : Int) (w : World) (h : n < 0 ∨ 64 < n) :
    Calls Try.prog 5 #[.int .i64 n] w fun e w' => e = .returned (.tuple #[.int .u64 0, .int .i64 2]) ∧ w = w' := by
  by_cases h0 : n < 0
  · go_enter Try.func5, Try.ntmps5
    go_wp2
    go_ret2
    exact ⟨rfl, rfl⟩
  · have h1 : 64 < n := by omega
    have h2 : 0 ≤ n := by omega
    clear h h0
    go_enter Try.func5, Try.ntmps5
    go_wp2
    go_ret2
    exact ⟨rfl, rfl⟩
/-- A row of Pascal's triangle, from place j on already the next one. -/
def pas (i j t : Nat) : Nat := if j < t then bin (i + 1) t else bin i t
theorem pas_step {i j : Nat} (t : Nat) : (if t = j + 1 then pas i (j + 1) (j + 1) + pas i (j + 1) j else pas i (j + 1) t) = pas i j t := by
  unfold pas
  by_cases e : t = j + 1
  · subst e
    rw [if_pos rfl, if_neg (by omega), if_neg (by omega), if_pos (by omega), bin_succ]
  · rw [if_neg e]
    by_cases h : j + 1 < t
    · rw [if_pos h, if_pos (by omega)]
    · rw [if_neg h, if_neg (by omega)]
theorem pas_zero (i t : Nat) : pas i 0 t = bin (i + 1) t := by
  unfold pas
  by_cases h : 0 < t
  · rw [if_pos h]
  · obtain rfl : t = 0 := by omega
    rw [if_neg h, bin_zero, bin_zero]
theorem pas_top (i k t : Nat) (ht : t ≤ k) : pas i k t = bin i t := if_neg (by omega)
theorem pas_small {i j t : Nat} (hi : i < 64) : pas i j t ≤ 1832624140942590534 := by
  unfold pas
  split
  · exact bin_small (by omega)
  · exact bin_small (by omega)
end Go.Proofs.Ytfajmoiffjbcbab
