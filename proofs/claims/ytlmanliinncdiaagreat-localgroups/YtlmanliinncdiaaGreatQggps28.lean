/-
  Contracts of the sets' plain calls: Has, first, Full, isSetOf, portion.
  How many bits are set: math/bits.OnesCount64, and Count.
  Contracts of Choose and Upto.
  Contracts of Place and At.
  Contract of Next.
  Contracts of the sets' reference: Full, pascal, Choose, Upto.
  Contracts of the sets' reference: Choose, Upto.
  Contracts of Of, List and the reference's; two lists alike.
  Contracts of List and the reference's; two lists alike.
-/
import Derived.Test.YtlmanliinncdiaaGreatQggps00
import Derived.Test.YtlmanliinncdiaaGreatQggps02
import Derived.WalkMore
import Derived.ScopeJumps
import Derived.Test.YtlmanliinncdiaaGreatQggps16
set_option maxRecDepth 100000
set_option maxHeartbeats 16000000
namespace Go.Proofs.YtlmanliinncdiaaGreat
open Go.RowKit
theorem qi3 (s i : Nat) : (s : Int) / 2 ^ i = ((s / 2 ^ i : Nat) : Int) := by simp
theorem j_shr (s i : Nat) (hs : s < 18446744073709551616) : (s : Int) / 2 ^ min i 64 = ((s / 2 ^ i : Nat) : Int) := by
 rw [qi3]
 by_cases h : i ≤ 64
 ·rw [Nat.min_eq_left h]
 ·rw [Nat.min_eq_right (by omega), Nat.div_eq_of_lt (show s < 2 ^ 64 from hs), Nat.div_eq_of_lt (Nat.lt_of_lt_of_le (show s < 2 ^ 64 from hs) (Nat.pow_le_pow_right (by decide) (by omega)))]
theorem qft (s i : Nat) (hs : s < 18446744073709551616) : s / 2 ^ i < 18446744073709551616 := Nat.lt_of_le_of_lt (Nat.div_le_self _ _) hs
theorem j_bit (s i : Nat) (hs : s < 18446744073709551616) : bits .and .u64 ((s / 2 ^ i : Nat) : Int) 1 = ((bt s i : Nat) : Int) := by
 have h := u64_and_nat (s / 2 ^ i) 1 (qft s i hs) (by decide)
 rw [Nat.and_one_is_mod] at h
 exact h
theorem j_bit' (s i : Nat) (hs : s < 18446744073709551616) : bits .and .u64 ((s : Int) / 2 ^ i) 1 = ((bt s i : Nat) : Int) := by rw [qi3, j_bit s i hs]
theorem qcc {i : Nat} (h : i < 64) : 2 ^ i < 18446744073709551616 := Nat.pow_lt_pow_right (a := 2) (by decide) h
theorem qi4 (i : Nat) (h : i < 64) : IntKind.u64.wrap (2 ^ i) = ((2 ^ i : Nat) : Int) := by
 have h1 := qcc h
 have e : ((2 : Int) ^ i) = ((2 ^ i : Nat) : Int) := by simp
 rw [e, IntKind.wrap_u64]
 generalize 2 ^ i = z at h1 ⊢
 omega
theorem j_bool {n : Nat} : ((n : Int) == 1) = decide (n = 1) := by
 by_cases h : n = 1
 ·subst h; rfl
 ·rw [decide_eq_false h]
  simp only [beq_eq_false_iff_ne, ne_eq]
  omega
theorem jhas_ok (s i : Nat) (w : World) (hs : s < 18446744073709551616) :
  Calls Tryz.prog 49 #[.int .u64 (s : Int), .int .i64 (i : Int)] w fun e w' => e = .returned (.bool (decide (bt s i = 1))) ∧ w = w' := by
 have h1 : (s : Int) / 2 ^ min i 64 = (s : Int) / 2 ^ i := by rw [j_shr s i hs, qi3]
 have h2 := j_bit' s i hs
 go_enter Tryz.func49, Tryz.ntmps49
 go_wp2
 go_ret
 exact ⟨by rw [← j_bool]; rfl, rfl⟩
theorem qcd (s i : Nat) (w : World) (hs : s < 18446744073709551616) (hi : i < 64) :
  Calls Tryz.prog 21 #[.int .u64 (s : Int), .int .i64 (i : Int)] w fun e w' => e = .returned (.bool (decide (bt s i = 1))) ∧ w = w' := by
 have h2 := j_bit' s i hs
 go_enter Tryz.func21, Tryz.ntmps21
 go_wp2
 go_ret
 exact ⟨by rw [← j_bool]; rfl, rfl⟩
open Go.RowKit
theorem qea (b x y : Nat) : x &&& y = ((x % 2 ^ b) &&& (y % 2 ^ b)) + 2 ^ b * (x / 2 ^ b &&& y / 2 ^ b) := by
 rw [← Nat.and_mod_two_pow, ← Nat.and_div_two_pow, Nat.mod_add_div]
def sp1 : Nat → Nat | 0 => 0 | k + 1 => 1 + 4 * sp1 k
def sp2 : Nat → Nat | 0 => 0 | k + 1 => 3 + 16 * sp2 k
def sp3 : Nat → Nat | 0 => 0 | k + 1 => 15 + 256 * sp3 k
theorem qi5 (k z : Nat) : z &&& sp1 (k + 1) = z % 2 + 4 * (z / 4 &&& sp1 k) := by
 show z &&& (1 + 4 * sp1 k) = _
 have h := qea 2 z (1 + 4 * sp1 k)
 rw [show (2 : Nat) ^ 2 = 4 from rfl, show (1 + 4 * sp1 k) % 4 = 1 by omega, show (1 + 4 * sp1 k) / 4 = sp1 k by omega, Nat.and_one_is_mod] at h
 omega
theorem qi6 (k z : Nat) : z &&& sp2 (k + 1) = z % 4 + 16 * (z / 16 &&& sp2 k) := by
 show z &&& (3 + 16 * sp2 k) = _
 have h := qea 4 z (3 + 16 * sp2 k)
 have h2 := Nat.and_two_pow_sub_one_eq_mod (z % 16) 2
 rw [show (2 : Nat) ^ 2 - 1 = 3 from rfl] at h2
 rw [show (2 : Nat) ^ 4 = 16 from rfl, show (3 + 16 * sp2 k) % 16 = 3 by omega, show (3 + 16 * sp2 k) / 16 = sp2 k by omega, h2] at h
 omega
theorem and_sp3 (k z : Nat) : z &&& sp3 (k + 1) = z % 16 + 256 * (z / 256 &&& sp3 k) := by
 show z &&& (15 + 256 * sp3 k) = _
 have h := qea 8 z (15 + 256 * sp3 k)
 have h2 := Nat.and_two_pow_sub_one_eq_mod (z % 256) 4
 rw [show (2 : Nat) ^ 4 - 1 = 15 from rfl] at h2
 rw [show (2 : Nat) ^ 8 = 256 from rfl, show (15 + 256 * sp3 k) % 256 = 15 by omega, show (15 + 256 * sp3 k) / 256 = sp3 k by omega, h2] at h
 omega
/-- The first step: each pair of bits becomes their sum. -/
def st1 (k x : Nat) : Nat := (x / 2 &&& sp1 k) + (x &&& sp1 k)
def st2 (k x : Nat) : Nat := (st1 (2 * k) x / 4 &&& sp2 k) + (st1 (2 * k) x &&& sp2 k)
def st3 (k x : Nat) : Nat := (st2 (2 * k) x / 16 + st2 (2 * k) x) &&& sp3 k
theorem qeb (k x : Nat) : st1 (k + 1) x = cn x 2 + 4 * st1 k (x / 4) := by
 unfold st1
 rw [qi5, qi5, show x / 2 / 4 = x / 4 / 2 by omega]
 show _ = x % 2 + (x / 2 % 2 + 0) + _
 omega
theorem cn_four (x : Nat) : cn x 4 = cn x 2 + cn (x / 4) 2 := qcp 2 2 x
theorem cn_eight (x : Nat) : cn x 8 = cn x 4 + cn (x / 16) 4 := qcp 4 4 x
theorem qct (k x : Nat) : st2 (k + 1) x = cn x 4 + 16 * st2 k (x / 16) := by
 unfold st2
 rw [show 2 * (k + 1) = 2 * k + 1 + 1 by omega, qeb, qeb, qi6, qi6, cn_four, show x / 4 / 4 = x / 16 by omega]
 have h1 := qay 2 x
 have h2 := qay 2 (x / 4)
 generalize cn x 2 = a at *
 generalize cn (x / 4) 2 = b at *
 generalize st1 (2 * k) (x / 16) = r at *
 rw [show (a + 4 * (b + 4 * r)) / 4 / 16 = r / 4 by omega, show (a + 4 * (b + 4 * r)) / 16 = r by omega]
 omega
theorem qfu (x : Nat) : st2 0 x = 0 := by
 show (_ &&& 0) + (_ &&& 0) = 0
 rw [Nat.and_zero, Nat.and_zero]
theorem st1_zero (x : Nat) : st1 0 x = 0 := by
 show (_ &&& 0) + (_ &&& 0) = 0
 rw [Nat.and_zero, Nat.and_zero]
theorem st3_zero (x : Nat) : st3 0 x = 0 := Nat.and_zero _
theorem st2_low (k x : Nat) : st2 k x % 16 ≤ 4 := by
 cases k with
 | zero => rw [qfu]; decide
 | succ k => rw [qct]; have := qay 4 x; omega
theorem qax (k x : Nat) : st3 (k + 1) x = cn x 8 + 256 * st3 k (x / 256) := by
 unfold st3
 rw [show 2 * (k + 1) = 2 * k + 1 + 1 by omega, qct, qct, and_sp3, cn_eight, show x / 16 / 16 = x / 256 by omega]
 have h1 := qay 4 x
 have h2 := qay 4 (x / 16)
 have h3 := st2_low (2 * k) (x / 256)
 generalize cn x 4 = a at *
 generalize cn (x / 16) 4 = b at *
 generalize st2 (2 * k) (x / 256) = r at *
 rw [show ((a + 16 * (b + 16 * r)) / 16 + (a + 16 * (b + 16 * r))) / 256 = r / 16 + r by omega]
 omega
theorem qi7 : ∀ k x, 3 * st1 k x + 2 ≤ 2 * 4 ^ k := by
 intro k
 induction k with
 | zero => intro x; rw [st1_zero]; decide
 | succ k ih => intro x; rw [qeb, Nat.pow_succ]; have := ih (x / 4); have := qay 2 x; omega
theorem qi8 : ∀ k x, 15 * st2 k x + 4 ≤ 4 * 16 ^ k := by
 intro k
 induction k with
 | zero => intro x; rw [qfu]; decide
 | succ k ih => intro x; rw [qct, Nat.pow_succ]; have := ih (x / 16); have := qay 4 x; omega
theorem qi9 (x : Nat) : cn x 64 = cn x 8 + (cn (x / 256) 8 + (cn (x / 256 / 256) 8 + (cn (x / 256 / 256 / 256) 8 + (cn (x / 256 / 256 / 256 / 256) 8 + (cn (x / 256 / 256 / 256 / 256 / 256) 8 + (cn (x / 256 / 256 / 256 / 256 / 256 / 256) 8 + cn (x / 256 / 256 / 256 / 256 / 256 / 256 / 256) 8)))))) := by
 have h : ∀ l y, cn y (8 + l) = cn y 8 + cn (y / 256) l := fun l y => qcp 8 l y
 rw [show (64 : Nat) = 8 + 56 from rfl, h, show (56 : Nat) = 8 + 48 from rfl, h, show (48 : Nat) = 8 + 40 from rfl, h, show (40 : Nat) = 8 + 32 from rfl, h, show (32 : Nat) = 8 + 24 from rfl, h, show (24 : Nat) = 8 + 16 from rfl, h, show (16 : Nat) = 8 + 8 from rfl, h]
theorem st3_form (x : Nat) : ∃ a b c d e f g h : Nat, a ≤ 8 ∧ b ≤ 8 ∧ c ≤ 8 ∧ d ≤ 8 ∧ e ≤ 8 ∧ f ≤ 8 ∧ g ≤ 8 ∧ h ≤ 8 ∧ cn x 64 = a + (b + (c + (d + (e + (f + (g + h)))))) ∧ st3 8 x = a + 256 * (b + 256 * (c + 256 * (d + 256 * (e + 256 * (f + 256 * (g + 256 * h)))))) := by
 refine ⟨_, _, _, _, _, _, _, _, qay 8 _, qay 8 _, qay 8 _, qay 8 _, qay 8 _, qay 8 _, qay 8 _, qay 8 _, qi9 x, ?_⟩
 rw [qax, qax, qax, qax, qax, qax, qax, qax, st3_zero, Nat.mul_zero, Nat.add_zero]
/-- The last steps add the eight bytes up. -/
theorem swar_end {X s : Nat} (H : ∃ a b c d e f g h : Nat, a ≤ 8 ∧ b ≤ 8 ∧ c ≤ 8 ∧ d ≤ 8 ∧ e ≤ 8 ∧ f ≤ 8 ∧ g ≤ 8 ∧ h ≤ 8 ∧ s = a + (b + (c + (d + (e + (f + (g + h)))))) ∧ X = a + 256 * (b + 256 * (c + 256 * (d + 256 * (e + 256 * (f + 256 * (g + 256 * h))))))) :
  ∃ Y Z W : Nat, X + X / 256 = Y ∧ Y + Y / 65536 = Z ∧ Z + Z / 4294967296 = W ∧ X < 9223372036854775808 ∧ Y < 9223372036854775808 ∧ Z < 9223372036854775808 ∧ W < 9223372036854775808 ∧ W % 128 = s := by
 obtain ⟨a, b, c, d, e, f, g, h, h1, h2, h3, h4, h5, h6, h7, h8, rfl, rfl⟩ := H
 refine ⟨(a + b) + 256 * ((b + c) + 256 * ((c + d) + 256 * ((d + e) + 256 * ((e + f) + 256 * ((f + g) + 256 * ((g + h) + 256 * h)))))),
  (a + b + c + d) + 256 * ((b + c + d + e) + 256 * ((c + d + e + f) + 256 * ((d + e + f + g) + 256 * ((e + f + g + h) + 256 * ((f + g + h) + 256 * ((g + h) + 256 * h)))))),
  (a + b + c + d + e + f + g + h) + 256 * ((b + c + d + e + f + g + h) + 256 * ((c + d + e + f + g + h) + 256 * ((d + e + f + g + h) + 256 * ((e + f + g + h) + 256 * ((f + g + h) + 256 * ((g + h) + 256 * h)))))), ?_, ?_, ?_, ?_, ?_, ?_, ?_, ?_⟩ <;> omega
theorem qb0 {a b c : Nat} (h : a + b = c) (hc : c < 18446744073709551616) : IntKind.u64.wrap ((a : Int) + (b : Int)) = (c : Int) := by
 rw [IntKind.wrap_u64]
 omega
theorem jones_ok (x : Nat) (w : World) (hx : x < 18446744073709551616) :
  Calls Tryz.prog 70 #[.int .u64 (x : Int)] w fun e w' => e = .returned (.int .i64 ((cn x 64 : Nat) : Int)) ∧ w = w' := by
 obtain ⟨R, HR⟩ : ∃ R, R = cn x 64 := ⟨_, rfl⟩
 obtain ⟨Y, Z, W, hY, hZ, hW, b3, b4, b5, b6, hR⟩ := swar_end (st3_form x)
 rw [← HR] at hR ⊢
 have s1 := qi7 32 x
 have s2 := qi8 16 x
 have e3 : (st2 16 x / 16 + st2 16 x) &&& 1085102592571150095 = st3 8 x := rfl
 have e2 : (st1 32 x / 4 &&& 3689348814741910323) + (st1 32 x &&& 3689348814741910323) = st2 16 x := rfl
 have e1 : (x / 2 &&& 6148914691236517205) + (x &&& 6148914691236517205) = st1 32 x := rfl
 generalize st3 8 x = X3 at *
 generalize st2 16 x = X2 at *
 generalize st1 32 x = X1 at *
 have a1 : bits .and .u64 ((x : Int) / 2) 6148914691236517205 = ((x / 2 &&& 6148914691236517205 : Nat) : Int) := u64_and_nat (x / 2) 6148914691236517205 (by omega) (by omega)
 have a2 : bits .and .u64 (x : Int) 6148914691236517205 = ((x &&& 6148914691236517205 : Nat) : Int) := u64_and_nat x 6148914691236517205 hx (by omega)
 have a4 : bits .and .u64 ((X1 : Int) / 4) 3689348814741910323 = ((X1 / 4 &&& 3689348814741910323 : Nat) : Int) := u64_and_nat (X1 / 4) 3689348814741910323 (by omega) (by omega)
 have a5 : bits .and .u64 (X1 : Int) 3689348814741910323 = ((X1 &&& 3689348814741910323 : Nat) : Int) := u64_and_nat X1 3689348814741910323 (by omega) (by omega)
 generalize (x / 2 &&& 6148914691236517205) = A1 at *
 generalize (x &&& 6148914691236517205) = A2 at *
 generalize (X1 / 4 &&& 3689348814741910323) = A4 at *
 generalize (X1 &&& 3689348814741910323) = A5 at *
 have a3 := qb0 e1 (by omega)
 have a6 := qb0 e2 (by omega)
 obtain ⟨Y2, HY2⟩ : ∃ Y2, Y2 = X2 / 16 + X2 := ⟨_, rfl⟩
 rw [← HY2] at e3
 have a7 : IntKind.u64.wrap ((X2 : Int) / 16 + (X2 : Int)) = (Y2 : Int) := qb0 (a := X2 / 16) HY2.symm (by omega)
 have a8 : bits .and .u64 (Y2 : Int) 1085102592571150095 = ((Y2 &&& 1085102592571150095 : Nat) : Int) := u64_and_nat Y2 1085102592571150095 (by omega) (by omega)
 rw [e3] at a8
 have a9 : IntKind.u64.wrap ((X3 : Int) + (X3 : Int) / 256) = (Y : Int) := qb0 (b := X3 / 256) hY (by omega)
 have a10 : IntKind.u64.wrap ((Y : Int) + (Y : Int) / 65536) = (Z : Int) := qb0 (b := Y / 65536) hZ (by omega)
 have a11 : IntKind.u64.wrap ((Z : Int) + (Z : Int) / 4294967296) = (W : Int) := qb0 (b := Z / 4294967296) hW (by omega)
 have a12 : bits .and .i64 (W : Int) 127 = (R : Int) := by rw [i64_and127]; omega
 clear HY2
 clear e1 e2 e3 s1 s2 hY hZ hW hR HR
 go_enter Tryz.func70, Tryz.ntmps70
 go_wp2
 go_ret
 exact ⟨rfl, rfl⟩
theorem qia (x : Nat) (w : World) (hx : x < 18446744073709551616) :
  Calls Tryz.prog 39 #[.int .u64 (x : Int)] w fun e w' => e = .returned (.int .i64 ((cn x 64 : Nat) : Int)) ∧ w = w' := by
 obtain ⟨R, HR⟩ : ∃ R, Hid (cn x 64 = R) := ⟨_, rfl⟩
 rw [HR.out]
 go_enter Tryz.func39, Tryz.ntmps39
 go_wp2_with (go_at_call 70; refine (jones_ok _ _ hx).mono ?_; rintro e w' ⟨rfl, rfl⟩; rw [HR.out])
 go_ret
 exact ⟨rfl, rfl⟩
open Go.RowKit
theorem qeo {n : Nat} (hn : n ≤ 64) : 2 ^ n ≤ 18446744073709551616 := Nat.pow_le_pow_right (n := 2) (by decide) hn
theorem qec {s n : Nat} (hn : n ≤ 64) (h : s < 2 ^ n) : s < 18446744073709551616 := Nat.lt_of_lt_of_le h (qeo hn)
theorem cn_all {s n : Nat} (hn : n ≤ 64) (h : s < 2 ^ n) : cn s 64 = cn s n := by
 have h1 := (qd0 (s := s) (i := n) (64 - n) h).1
 rwa [show n + (64 - n) = 64 by omega] at h1
open Go.RowKit
theorem qib {i : Nat} : (2 ^ i - 1) ||| 2 ^ i = 2 ^ (i + 1) - 1 := by
 have := Nat.two_pow_pos i
 rw [or_top (by omega), Nat.pow_succ]
 omega
theorem qfv (k : Nat) (w : World) (hk : k ≤ 64) :
  Calls Tryz.prog 64 #[.int .i64 (k : Int)] w fun e w' => e = .returned (.tuple #[.int .u64 ((2 ^ k - 1 : Nat) : Int), .int .i64 0]) ∧ w = w' := by
 have g1 : decide ((k : Int) < 0) = false := decide_eq_false (by omega)
 have g2 : decide ((64 : Int) < (k : Int)) = false := decide_eq_false (by omega)
 obtain ⟨R, HR⟩ : ∃ R : Nat, Hid ((2 ^ k - 1 : Nat) = R) := ⟨_, rfl⟩
 rw [HR.out]
 go_enter Tryz.func64, Tryz.ntmps64
 go_wp2
 go_loop [4, 5] (fun vz vi => ∃ i z : Nat, i ≤ k ∧ Hid ((2 ^ i - 1 : Nat) = z) ∧ vi = .int .i64 (i : Int) ∧ vz = .int .u64 (z : Int)) (fun _ vi => k - (intOf vi).toNat)
 case atStart => exact ⟨0, 0, by omega, rfl, rfl, rfl⟩
 case round =>
  obtain ⟨i, z, hi, HZ, rfl, rfl⟩ := hrel
  by_cases hlt : i < k
  ·have hi6 : i < 64 := by omega
   obtain ⟨T, hT⟩ : ∃ T, 2 ^ i = T := ⟨_, rfl⟩
   obtain ⟨z', HZ'⟩ : ∃ z' : Nat, Hid ((2 ^ (i + 1) - 1 : Nat) = z') := ⟨_, rfl⟩
   have hp2 : IntKind.u64.wrap (2 ^ i) = (T : Int) := by rw [← hT]; exact qi4 i hi6
   have hT6 := qcc hi6
   have hor : bits .or .u64 (z : Int) (T : Int) = (z' : Int) := by
    rw [u64_or_nat z T (by rw [← HZ.out]; omega) (by omega), ← hT, ← HZ.out, qib, HZ'.out]
   clear hT hT6 HZ
   go_wp2
   exact ⟨⟨i + 1, z', by omega, HZ', by go_num, rfl⟩, by simp [intOf]; omega⟩
  ·obtain rfl : i = k := by omega
   have HE : Hid (z = R) := by show _ = _; rw [← HZ.out, ← HR.out]
   clear HZ HR
   go_wp2
   go_ret2
   exact ⟨by rw [← HE.out]; rfl, rfl⟩
open Go.RowKit
/-- A number is put behind a list of the call's own. -/
theorem Jo.push {w w2 : World} {B n : Nat} {T : TypeId} {K : IntKind} {v v' : Value} {f : Nat → Nat} {x : Nat} {o : Obj} (h : Jo w B T K v n f) (hB : B ≤ w.heap.size)
  (hown : w2.ownsRow B T 1 v' (n + 1) ((jrow K n f).toList ++ [.int K (x : Int)])) (hg : (w.alloc o).grownBy w2 v.ownBlock) : Jo w2 B T K v' (n + 1) (fun i => if i = n then x else f i) ∧ Below B w w2 := by
 refine ⟨?_, ?_⟩
 ·unfold Jo
  rw [← qh5]
  exact hown
 ·have h1 : Below B w (w.alloc o) := (jlow w o).mono hB
  exact h1.trans (jbelow hg (by have := (jlow w o).size; omega) (fun g hg' => (h.base hg').1))
theorem rlist_ok (s : Nat) (w : World) (hs : s < 18446744073709551616) :
  Calls Tryz.prog 22 #[.int .u64 (s : Int)] w fun e w' => ∃ v, e = .returned v ∧ Jo w' w.heap.size 3 .i64 v (cn s 64) (lf s 64) ∧ Below w.heap.size w w' := by
 obtain ⟨i0, hi0, hz0, hz1, hz2⟩ := info_parts ji64
 have HN : Hid (Jo w w.heap.size 3 .i64 (.slice none 0 0) 0 (lf s 0)) := Jo.nil _ _ _ _ _
 go_enter Tryz.func22, Tryz.ntmps22
 go_wp2
 go_loopw [3, 4] (fun v vi wr => ∃ i : Nat, i ≤ 64 ∧ vi = .int .i64 (i : Int) ∧ Jo wr w.heap.size 3 .i64 v (cn s i) (lf s i) ∧ Below w.heap.size w wr) (fun _ vi _ => 64 - (intOf vi).toNat)
 case atStart => exact ⟨0, by omega, rfl, HN.out, Below.refl _ _⟩
 case round =>
  obtain ⟨i, hi, rfl, I, hb⟩ := hrel
  obtain ⟨ps, pd, rfl, hpn⟩ := I.form
  have HI : Hid (Jo wr w.heap.size 3 .i64 (.slice ps (cn s i) pd) (cn s i) (lf s i)) := I
  have HB : Hid (Below w.heap.size w wr) := hb
  have hcn := qay i s
  obtain ⟨t, HT⟩ : ∃ t, Hid (cn s i = t) := ⟨_, rfl⟩
  rw [HT.out] at HI hcn hpn I ⊢
  clear I hb HN
  by_cases hlt : i < 64
  ·by_cases hbit : bt s i = 1
   ·have hdb : decide (bt s i = 1) = true := decide_eq_true hbit
    have hml2 : t + 1 ≤ maxLen := by unfold maxLen; omega
    have hwsz := HB.out.size
    have HC : Hid (cn s (i + 1) = t + 1) := by show _ = _; rw [qbd, hbit, HT.out]
    have HL : Hid (∀ k, k < t + 1 → (if k = t then i else lf s i k) = lf s (i + 1) k) := fun k _ => by rw [lf_in hbit, HT.out]
    clear hbit
    go_wp2_with (first
     | (go_at_call 21; refine (qcd s i _ hs hlt).mono ?_; rintro e w' ⟨rfl, rfl⟩; rw [hdb])
     | (at_builtin; refine wpList_append_own _ rfl _ _ 34 rfl w.heap.size 3 i0 (.int .i64 0) 1 8 Tryz.underlying34 hi0 hz0 hz1 hz2 rfl (by decide) _ t _ rfl (World.ownsRow.alloc HI.out _) ⟨wr.heap.size, 0, none⟩ 1 1 [.int .i64 (i : Int)] rfl rfl (qdt _ _ _ _) (qdu _ _) hml2 (by omega) (by simp; omega) ?_; intro v' w6 hown' hgrow' _; have HO6 := HI.out.push HB.out.size hown' hgrow'; clear hown' hgrow'))
    exact ⟨⟨i + 1, by omega, by go_num, by rw [HC.out]; exact HO6.1.congr HL.out, HB.out.trans HO6.2⟩, by simp [intOf]; omega⟩
   ·have hdb : decide (bt s i = 1) = false := decide_eq_false hbit
    have hb0 : bt s i = 0 := by have := bt_lt s i; omega
    have HC : Hid (cn s (i + 1) = t) := by show _ = _; rw [qbd, hb0, HT.out]; rfl
    have HL : Hid (∀ k, k < t → lf s i k = lf s (i + 1) k) := fun k _ => (qfe hb0 k).symm
    clear hbit hb0
    go_wp2_with (go_at_call 21; refine (qcd s i _ hs hlt).mono ?_; rintro e w' ⟨rfl, rfl⟩; rw [hdb])
    exact ⟨⟨i + 1, by omega, by go_num, by rw [HC.out]; exact HI.out.congr HL.out, HB.out⟩, by simp [intOf]; omega⟩
  ·obtain rfl : i = 64 := by omega
   go_wp2
   go_ret
   exact ⟨_, rfl, by rw [HT.out]; exact HI.out, HB.out⟩
theorem qfw (s : Nat) (w : World) (hs : s < 18446744073709551616) :
  Calls Tryz.prog 26 #[.int .u64 (s : Int)] w fun e w' => ∃ v, e = .returned v ∧ Jo w' w.heap.size 3 .i64 v (cn s 64) (lf s 64) ∧ Below w.heap.size w w' := by
 obtain ⟨i0, hi0, hz0, hz1, hz2⟩ := info_parts ji64
 obtain ⟨k, HK⟩ : ∃ k, Hid (cn s 64 = k) := ⟨_, rfl⟩
 have hk : k ≤ 64 := by rw [← HK.out]; exact qay 64 s
 have HE : Hid ((jrow .i64 0 (lf s 0)).toList = []) := by simp [jrow, Hid]
 go_enter Tryz.func26, Tryz.ntmps26
 go_wp2_with (first
  | (go_at_call 39; refine (qia s _ hs).mono ?_; rintro e w' ⟨rfl, rfl⟩; rw [HK.out])
  | (at_make; refine wpList_make_own _ rfl _ _ 34 rfl w.heap.size 3 i0 (.int .i64 0) 1 Tryz.underlying34 hi0 hz0 hz1 .i64 .i64 _ k rfl rfl rfl (by rw [hz2]; omega) (by unfold maxLen; omega) (Nat.le_refl _) ?_; intro w1 hown hgrow; have HN : Hid (Jo w1 w.heap.size 3 .i64 (.slice (some ⟨w.heap.size, 0, none⟩) 0 k) 0 (lf s 0)) := (by unfold Jo; rw [HE.out]; exact hown); have HB1 : Hid (Below w.heap.size w w1) := jgrown.mp hgrow; clear hown hgrow))
 go_loopw [0, 3, 4] (fun vs v vi wr => ∃ i z : Nat, i ≤ 64 ∧ Hid (s / 2 ^ i = z) ∧ vs = .int .u64 (z : Int) ∧ vi = .int .i64 (i : Int) ∧ Jo wr w.heap.size 3 .i64 v (cn s i) (lf s i) ∧ Below w.heap.size w wr) (fun vs _ _ _ => (intOf vs).toNat)
 case atStart => exact ⟨0, s, by omega, (by show _ = _; rw [Nat.pow_zero, Nat.div_one]), rfl, rfl, HN.out, HB1.out⟩
 case round =>
  clear HN HB1 HE
  obtain ⟨i, z, hi, HZ, rfl, rfl, I, hb⟩ := hrel
  obtain ⟨ps, pd, rfl, hpn⟩ := I.form
  have HI : Hid (Jo wr w.heap.size 3 .i64 (.slice ps (cn s i) pd) (cn s i) (lf s i)) := I
  have HB : Hid (Below w.heap.size w wr) := hb
  have hcn := qay i s
  obtain ⟨t, HT⟩ : ∃ t, Hid (cn s i = t) := ⟨_, rfl⟩
  rw [HT.out] at HI hcn hpn I ⊢
  clear I hb
  have hz6 : z < 18446744073709551616 := by rw [← HZ.out]; exact qft s i hs
  by_cases hz : z = 0
  ·have HLow : Hid (s < 2 ^ i) := by
    show _ < _
    apply Classical.byContradiction
    intro hn
    have := Nat.div_pos (Nat.le_of_not_lt hn) (Nat.two_pow_pos i)
    rw [HZ.out] at this
    omega
   subst hz
   have HC : Hid (k = t) := by show _ = _; rw [← HK.out, ← HT.out]; have := (qd0 (s := s) (i := i) (64 - i) HLow.out).1; rwa [show i + (64 - i) = 64 by omega] at this
   have HL : Hid (∀ u, u < t → lf s i u = lf s 64 u) := fun u _ => by have := (qd0 (s := s) (i := i) (64 - i) HLow.out).2 u; rw [show i + (64 - i) = 64 by omega] at this; exact this.symm
   go_wp2
   go_ret
   exact ⟨_, rfl, by rw [HK.out, HC.out]; exact HI.out.congr HL.out, HB.out⟩
  ·have hi64 : i < 64 := by
    apply Classical.byContradiction
    intro hn
    obtain rfl : i = 64 := by omega
    have h := HZ.out
    rw [Nat.div_eq_of_lt (show s < 2 ^ 64 from hs)] at h
    omega
   have hne : ((z : Int) == 0) = false := by simp only [beq_eq_false_iff_ne, ne_eq]; omega
   have hbz : bits .and .u64 (z : Int) 1 = ((bt s i : Nat) : Int) := by rw [← HZ.out]; exact j_bit s i hs
   obtain ⟨z', hz'⟩ : ∃ z', z / 2 = z' := ⟨_, rfl⟩
   have HZ2 : Hid (s / 2 ^ (i + 1) = z') := by show _ = _; rw [← div_up, HZ.out, hz']
   have e1 : (z : Int) / 2 = (z' : Int) := by omega
   by_cases hbit : bt s i = 1
   ·have hbz1 : bits .and .u64 (z : Int) 1 = 1 := by rw [hbz, hbit]; rfl
    have hml2 : t + 1 ≤ maxLen := by unfold maxLen; omega
    have hwsz := HB.out.size
    have HC : Hid (cn s (i + 1) = t + 1) := by show _ = _; rw [qbd, hbit, HT.out]
    have HL : Hid (∀ k, k < t + 1 → (if k = t then i else lf s i k) = lf s (i + 1) k) := fun k _ => by rw [lf_in hbit, HT.out]
    have hzz : z' < z := by omega
    clear hbit HZ hbz hz6 hz' hz hs HK
    go_wp2_with (at_builtin; refine wpList_append_own _ rfl _ _ 34 rfl w.heap.size 3 i0 (.int .i64 0) 1 8 Tryz.underlying34 hi0 hz0 hz1 hz2 rfl (by decide) _ t _ rfl (World.ownsRow.alloc HI.out _) ⟨wr.heap.size, 0, none⟩ 1 1 [.int .i64 (i : Int)] rfl rfl (qdt _ _ _ _) (qdu _ _) hml2 (by omega) (by simp; omega) ?_; intro v' w6 hown' hgrow' _; have HO6 := HI.out.push HB.out.size hown' hgrow'; clear hown' hgrow')
    exact ⟨⟨i + 1, z', by omega, HZ2, by go_num, by go_num, by rw [HC.out]; exact HO6.1.congr HL.out, HB.out.trans HO6.2⟩, by simp [intOf]; omega⟩
   ·have hb0 : bt s i = 0 := by have := bt_lt s i; omega
    have hbz1 : bits .and .u64 (z : Int) 1 = 0 := by rw [hbz, hb0]; rfl
    have HC : Hid (cn s (i + 1) = t) := by show _ = _; rw [qbd, hb0, HT.out]; rfl
    have HL : Hid (∀ k, k < t → lf s i k = lf s (i + 1) k) := fun k _ => (qfe hb0 k).symm
    have hzz : z' < z := by omega
    clear hbit hb0 HZ hbz hz6 hz' hz hs HK
    go_wp2
    exact ⟨⟨i + 1, z', by omega, HZ2, by go_num, by go_num, by rw [HC.out]; exact HI.out.congr HL.out, HB.out⟩, by simp [intOf]; omega⟩
end Go.Proofs.YtlmanliinncdiaaGreat
