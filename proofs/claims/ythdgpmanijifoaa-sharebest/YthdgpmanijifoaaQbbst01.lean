/-
  Contracts of the field's plain calls: Add, double, Mul, and the reference's Mul.
-/
import Derived.Test.YthdgpmanijifoaaQbbst00
import Derived.Test.YthdgpmanijifoaaRows
import Derived.WalkKit
import Derived.WalkSpells
import Derived.WalkLawsBesides
import Derived.ProofKit
set_option maxRecDepth 100000
set_option maxHeartbeats 16000000
namespace Go.Proofs.Ythdgpmanijifoaa
open Go.RowKit
theorem qan {k : IntKind} {a b : Int} (h : a = b) : Ending.returned (.int k a) = .returned (.int k b) := by rw [h]
theorem qcb (a : Int) (w : World) (ha : Byte a) :
  Calls Try.prog 51 #[.int .u8 a] w fun e w' => e = .returned (.int .u8 (idbl a)) ∧ w' = w := by
 obtain ⟨h0, h1⟩ := ha
 by_cases h : a < 128
 ·go_enter Try.func51, Try.ntmps51
  go_wp2
  go_ret
  exact ⟨qan (qc8 a h0 h).symm, rfl⟩
 ·go_enter Try.func51, Try.ntmps51
  go_wp2
  go_ret
  exact ⟨qan (idbl_big a (by omega) h1), rfl⟩
theorem qag (a : Nat) (w : World) (ha : a < 256) :
  Calls Try.prog 51 #[.int .u8 (a : Int)] w fun e w' => e = .returned (.int .u8 (dbl a : Nat)) ∧ w' = w :=
 qcb a w (byte_nat a ha)
theorem mul_nat (a b : Nat) (w : World) (ha : a < 256) (hb : b < 256) :
  Calls Try.prog 38 #[.int .u8 (a : Int), .int .u8 (b : Int)] w fun e w' => e = .returned (.int .u8 (fm a b : Nat)) ∧ w' = w := by
 go_enter Try.func38, Try.ntmps38
 go_wp2
 go_loop [0, 1, 5] (fun s t p => ∃ n x y z : Nat, x < 256 ∧ y < 2 ^ n ∧ n ≤ 8 ∧ z < 256 ∧ Hid (z ^^^ sm n x y = fm a b) ∧ s = .int .u8 (x : Int) ∧ t = .int .u8 (y : Int) ∧ p = .int .u8 (z : Int)) (fun _ t _ => (intOf t).toNat)
 case atStart => exact ⟨8, a, b, 0, ha, hb, by omega, by omega, by rw [Nat.zero_xor]; rfl, rfl, rfl, rfl⟩
 case round =>
  obtain ⟨n, x, y, z, hx, hy, hn, hz, HI, rfl, rfl, rfl⟩ := hrel
  have hy2 : y < 256 := Nat.lt_of_lt_of_le hy (Nat.pow_le_pow_right (n := 2) (by omega) hn)
  by_cases h0 : y = 0
  ·subst h0
   go_wp2
   go_ret
   have := HI.out
   rw [qb1, Nat.xor_zero] at this
   exact ⟨qan (by rw [this]), rfl⟩
  ·obtain ⟨m, rfl⟩ : ∃ m, n = m + 1 := ⟨n - 1, by
    cases n with
    | zero => simp at hy; omega
    | succ n => rfl⟩
   have hne : ((y : Int) != 0) = true := by simp; omega
   have hlt : y / 2 < 2 ^ m := by rw [Nat.pow_succ] at hy; omega
   have hand := qal y hy2
   by_cases h1 : y % 2 = 1
   ·rw [h1] at hand
    have hxo : bits .xor .u8 (z : Int) (x : Int) = ((z ^^^ x : Nat) : Int) := u8_xor_nat z x hz hx
    go_wp2_with (go_at_call 51; refine (qag _ _ hx).mono ?_; rintro e w' ⟨rfl, rfl⟩)
    have HR := qbl m x y z _ HI.out
    rw [h1, Nat.one_mul] at HR
    exact ⟨⟨m, dbl x, y / 2, z ^^^ x, qa7 x hx, hlt, by omega, xor_lt _ _ hz hx, HR, rfl, rfl, rfl⟩, by simp [intOf]; omega⟩
   ·rw [show y % 2 = 0 by omega] at hand
    go_wp2_with (go_at_call 51; refine (qag _ _ hx).mono ?_; rintro e w' ⟨rfl, rfl⟩)
    have HR := qbl m x y z _ HI.out
    rw [show y % 2 = 0 by omega, Nat.zero_mul, Nat.xor_zero] at HR
    exact ⟨⟨m, dbl x, y / 2, z, qa7 x hx, hlt, by omega, hz, HR, rfl, rfl, rfl⟩, by simp [intOf]; omega⟩
theorem qav (a b : Nat) (w : World) (ha : a < 256) (hb : b < 256) :
  Calls Try.prog 26 #[.int .u8 (a : Int), .int .u8 (b : Int)] w fun e w' => e = .returned (.int .u8 (fm a b : Nat)) ∧ w' = w := by
 go_enter Try.func26, Try.ntmps26
 go_wp2
 go_loop [5, 6] (fun p i => ∃ k z : Nat, k ≤ 8 ∧ z < 32768 ∧ Hid (z = cl a b k) ∧ i = .int .i64 (k : Int) ∧ p = .int .i64 (z : Int)) (fun _ i => 8 - (intOf i).toNat)
 case atStart => exact ⟨0, 0, by omega, by omega, rfl, rfl, rfl⟩
 case round =>
  obtain ⟨k, z, hk, hz, HZ, rfl, rfl⟩ := hrel
  by_cases h8 : k < 8
  ·have hand := bit_u8 b k hb
   have hst := qc9 a k z (b / 2 ^ k) ha h8 hz
   by_cases h1 : b / 2 ^ k % 2 = 1
   ·rw [h1] at hand hst
    have hx := qck a z k ha hz h8
    have HS : Hid (z ^^^ a * 2 ^ k = cl a b (k + 1)) := by show _ = _; simp only [cl]; rw [h1, HZ.out, Nat.one_mul]
    rw [Nat.one_mul] at hst
    clear h1
    go_wp2
    exact ⟨⟨k + 1, _, by omega, hst, HS, by go_num, rfl⟩, by simp [intOf]; omega⟩
   ·have h1' : b / 2 ^ k % 2 = 0 := by omega
    rw [h1'] at hand
    have HS : Hid (z = cl a b (k + 1)) := by show _ = _; simp only [cl]; rw [h1', ← HZ.out, Nat.zero_mul, Nat.xor_zero]
    clear h1 h1'
    go_wp2
    exact ⟨⟨k + 1, _, by omega, hz, HS, by go_num, rfl⟩, by simp [intOf]; omega⟩
  ·obtain rfl : k = 8 := by omega
   have HR : Hid (rd 7 z = fm a b) := by show _ = _; rw [HZ.out, rmul_eq a b ha hb]
   clear HZ
   go_wp2
   go_loop [5, 7] (fun p i => ∃ m z : Nat, m ≤ 7 ∧ z < 32768 ∧ Hid (rd m z = fm a b) ∧ i = .int .i64 ((m : Int) + 7) ∧ p = .int .i64 (z : Int)) (fun _ i => (intOf i).toNat)
   case atStart => exact ⟨7, z, by omega, hz, HR, rfl, rfl⟩
   case round =>
    clear hz HR
    obtain ⟨m, z, hm, hz, HR, rfl, rfl⟩ := hrel
    by_cases h7 : m = 0
    ·subst h7
     have hlt : z < 256 := by
      have := HR.out
      simp only [rd] at this
      rw [this]; exact qba a b ha
     have hr : z = fm a b := HR.out
     go_wp2
     go_ret
     exact ⟨rfl, rfl⟩
    ·obtain ⟨n, rfl⟩ : ∃ n, m = n + 1 := ⟨m - 1, by omega⟩
     have hand := bit_i64 z (n + 8) hz
     have hst := qca n z (z / 2 ^ (n + 8)) (by omega) hz
     by_cases h1 : z / 2 ^ (n + 8) % 2 = 1
     ·rw [h1] at hand hst
      have hx := qbd z n hz (by omega)
      have HS : Hid (rd n (z ^^^ 285 * 2 ^ n) = fm a b) := by
       have := HR.out
       simp only [rd] at this
       rw [h1, Nat.one_mul] at this
       exact this
      rw [Nat.one_mul] at hst
      go_wp2
      exact ⟨⟨n, _, by omega, hst, HS, by go_num, rfl⟩, by simp [intOf]; omega⟩
     ·have h1' : z / 2 ^ (n + 8) % 2 = 0 := by omega
      rw [h1'] at hand
      have HS : Hid (rd n z = fm a b) := by
       have := HR.out
       simp only [rd] at this
       rw [h1', Nat.zero_mul, Nat.xor_zero] at this
       exact this
      go_wp2
      exact ⟨⟨n, _, by omega, hz, HS, by go_num, rfl⟩, by simp [intOf]; omega⟩
end Go.Proofs.Ythdgpmanijifoaa
