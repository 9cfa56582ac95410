/-
  Contracts of the sets' plain calls: Has, first, Full, isSetOf, portion.
  How many bits are set: math/bits.OnesCount64, and Count.
  Contracts of Choose and Upto.
  Contracts of Place and At.
  Contract of Next.
  Contracts of the sets' reference: Full, pascal, Choose, Upto.
  Contracts of the sets' reference: Choose, Upto.
  Contracts of Of, List and the reference's; two lists alike.
  Contracts of List and the reference's; two lists alike.
-/
import Derived.Test.YtmgfeepnkahkmaaGreatQggid00
import Derived.Test.YtmgfeepnkahkmaaGreatQggid02
import Derived.WalkMore
import Derived.ScopeJumps
import Derived.Test.YtmgfeepnkahkmaaGreatQggid06
set_option maxRecDepth 100000
set_option maxHeartbeats 16000000
namespace Go.Proofs.YtmgfeepnkahkmaaGreat
open Go.RowKit
theorem j_cast (s i : Nat) : (s : Int) / 2 ^ i = ((s / 2 ^ i : Nat) : Int) := by simp
theorem qh5 (s i : Nat) (hs : s < 18446744073709551616) : s / 2 ^ i < 18446744073709551616 := Nat.lt_of_le_of_lt (Nat.div_le_self _ _) hs
theorem j_bit (s i : Nat) (hs : s < 18446744073709551616) : bits .and .u64 ((s / 2 ^ i : Nat) : Int) 1 = ((bt s i : Nat) : Int) := by
 have h := u64_and_nat (s / 2 ^ i) 1 (qh5 s i hs) (by decide)
 rw [Nat.and_one_is_mod] at h
 exact h
theorem j_bit' (s i : Nat) (hs : s < 18446744073709551616) : bits .and .u64 ((s : Int) / 2 ^ i) 1 = ((bt s i : Nat) : Int) := by rw [j_cast, j_bit s i hs]
theorem qcd {i : Nat} (h : i < 64) : 2 ^ i < 18446744073709551616 := Nat.pow_lt_pow_right (a := 2) (by decide) h
theorem qjn (i : Nat) (h : i < 64) : IntKind.u64.wrap (2 ^ i) = ((2 ^ i : Nat) : Int) := by
 have h1 := qcd h
 have e : ((2 : Int) ^ i) = ((2 ^ i : Nat) : Int) := by simp
 rw [e, IntKind.wrap_u64]
 generalize 2 ^ i = z at h1 ⊢
 omega
theorem j_first (i : Nat) (h : i ≤ 64) : IntKind.u64.wrap (IntKind.u64.wrap (2 ^ i) - 1) = ((2 ^ i - 1 : Nat) : Int) := by
 by_cases h1 : i < 64
 ·have h2 := qcd h1
  have h3 := Nat.two_pow_pos i
  rw [qjn i h1, IntKind.wrap_u64]
  generalize 2 ^ i = z at h2 h3
  omega
 ·obtain rfl : i = 64 := by omega
  decide
theorem j_bool {n : Nat} : ((n : Int) == 1) = decide (n = 1) := by
 by_cases h : n = 1
 ·subst h; rfl
 ·rw [decide_eq_false h]
  simp only [beq_eq_false_iff_ne, ne_eq]
  omega
theorem qdk (s i : Nat) (w : World) (hs : s < 18446744073709551616) (hi : i < 64) :
  Calls Tryz.prog 35 #[.int .u64 (s : Int), .int .i64 (i : Int)] w fun e w' => e = .returned (.bool (decide (bt s i = 1))) ∧ w = w' := by
 have h2 := j_bit' s i hs
 go_enter Tryz.func35, Tryz.ntmps35
 go_wp2
 go_ret
 exact ⟨by rw [← j_bool]; rfl, rfl⟩
theorem qjo (k : Nat) (w : World) (hk : k ≤ 64) :
  Calls Tryz.prog 110 #[.int .i64 (k : Int)] w fun e w' => e = .returned (.int .u64 ((2 ^ k - 1 : Nat) : Int)) ∧ w = w' := by
 have h1 := j_first k hk
 go_enter Tryz.func110, Tryz.ntmps110
 go_wp2
 go_ret
 exact ⟨rfl, rfl⟩
theorem qjp (n : Nat) (w : World) (hn : n ≤ 64) :
  Calls Tryz.prog 109 #[.int .i64 (n : Int)] w fun e w' => e = .returned (.bool true) ∧ w = w' := by
 have h2 : decide ((n : Int) ≤ 64) = true := decide_eq_true (by omega)
 go_enter Tryz.func109, Tryz.ntmps109
 go_wp2
 go_ret
 exact ⟨rfl, rfl⟩
theorem jfull_ok (k : Nat) (w : World) (hk : k ≤ 64) :
  Calls Tryz.prog 84 #[.int .i64 (k : Int)] w fun e w' => e = .returned (.tuple #[.int .u64 ((2 ^ k - 1 : Nat) : Int), .int .i64 0]) ∧ w = w' := by
 obtain ⟨z, HZ⟩ : ∃ z : Nat, Hid ((2 ^ k - 1 : Nat) = z) := ⟨_, rfl⟩
 rw [HZ.out]
 go_enter Tryz.func84, Tryz.ntmps84
 go_wp2_with (first
  | (go_at_call 109; refine (qjp _ _ hk).mono ?_; rintro e w' ⟨rfl, rfl⟩)
  | (go_at_call 110; refine (qjo _ _ hk).mono ?_; rintro e w' ⟨rfl, rfl⟩; rw [HZ.out]))
 go_ret2
 exact ⟨rfl, rfl⟩
open Go.RowKit
theorem qf3 (b x y : Nat) : x &&& y = ((x % 2 ^ b) &&& (y % 2 ^ b)) + 2 ^ b * (x / 2 ^ b &&& y / 2 ^ b) := by
 rw [← Nat.and_mod_two_pow, ← Nat.and_div_two_pow, Nat.mod_add_div]
def sp1 : Nat → Nat | 0 => 0 | k + 1 => 1 + 4 * sp1 k
def sp2 : Nat → Nat | 0 => 0 | k + 1 => 3 + 16 * sp2 k
def sp3 : Nat → Nat | 0 => 0 | k + 1 => 15 + 256 * sp3 k
theorem qjq (k z : Nat) : z &&& sp1 (k + 1) = z % 2 + 4 * (z / 4 &&& sp1 k) := by
 show z &&& (1 + 4 * sp1 k) = _
 have h := qf3 2 z (1 + 4 * sp1 k)
 rw [show (2 : Nat) ^ 2 = 4 from rfl, show (1 + 4 * sp1 k) % 4 = 1 by omega, show (1 + 4 * sp1 k) / 4 = sp1 k by omega, Nat.and_one_is_mod] at h
 omega
theorem qjr (k z : Nat) : z &&& sp2 (k + 1) = z % 4 + 16 * (z / 16 &&& sp2 k) := by
 show z &&& (3 + 16 * sp2 k) = _
 have h := qf3 4 z (3 + 16 * sp2 k)
 have h2 := Nat.and_two_pow_sub_one_eq_mod (z % 16) 2
 rw [show (2 : Nat) ^ 2 - 1 = 3 from rfl] at h2
 rw [show (2 : Nat) ^ 4 = 16 from rfl, show (3 + 16 * sp2 k) % 16 = 3 by omega, show (3 + 16 * sp2 k) / 16 = sp2 k by omega, h2] at h
 omega
theorem and_sp3 (k z : Nat) : z &&& sp3 (k + 1) = z % 16 + 256 * (z / 256 &&& sp3 k) := by
 show z &&& (15 + 256 * sp3 k) = _
 have h := qf3 8 z (15 + 256 * sp3 k)
 have h2 := Nat.and_two_pow_sub_one_eq_mod (z % 256) 4
 rw [show (2 : Nat) ^ 4 - 1 = 15 from rfl] at h2
 rw [show (2 : Nat) ^ 8 = 256 from rfl, show (15 + 256 * sp3 k) % 256 = 15 by omega, show (15 + 256 * sp3 k) / 256 = sp3 k by omega, h2] at h
 omega
/-- The first step: each pair of bits becomes their sum. -/
def st1 (k x : Nat) : Nat := (x / 2 &&& sp1 k) + (x &&& sp1 k)
def st2 (k x : Nat) : Nat := (st1 (2 * k) x / 4 &&& sp2 k) + (st1 (2 * k) x &&& sp2 k)
def st3 (k x : Nat) : Nat := (st2 (2 * k) x / 16 + st2 (2 * k) x) &&& sp3 k
theorem qf4 (k x : Nat) : st1 (k + 1) x = cn x 2 + 4 * st1 k (x / 4) := by
 unfold st1
 rw [qjq, qjq, show x / 2 / 4 = x / 4 / 2 by omega]
 show _ = x % 2 + (x / 2 % 2 + 0) + _
 omega
theorem cn_four (x : Nat) : cn x 4 = cn x 2 + cn (x / 4) 2 := qde 2 2 x
theorem cn_eight (x : Nat) : cn x 8 = cn x 4 + cn (x / 16) 4 := qde 4 4 x
theorem qdl (k x : Nat) : st2 (k + 1) x = cn x 4 + 16 * st2 k (x / 16) := by
 unfold st2
 rw [show 2 * (k + 1) = 2 * k + 1 + 1 by omega, qf4, qf4, qjr, qjr, cn_four, show x / 4 / 4 = x / 16 by omega]
 have h1 := qaz 2 x
 have h2 := qaz 2 (x / 4)
 generalize cn x 2 = a at *
 generalize cn (x / 4) 2 = b at *
 generalize st1 (2 * k) (x / 16) = r at *
 rw [show (a + 4 * (b + 4 * r)) / 4 / 16 = r / 4 by omega, show (a + 4 * (b + 4 * r)) / 16 = r by omega]
 omega
theorem qh6 (x : Nat) : st2 0 x = 0 := by
 show (_ &&& 0) + (_ &&& 0) = 0
 rw [Nat.and_zero, Nat.and_zero]
theorem st1_zero (x : Nat) : st1 0 x = 0 := by
 show (_ &&& 0) + (_ &&& 0) = 0
 rw [Nat.and_zero, Nat.and_zero]
theorem st3_zero (x : Nat) : st3 0 x = 0 := Nat.and_zero _
theorem st2_low (k x : Nat) : st2 k x % 16 ≤ 4 := by
 cases k with
 | zero => rw [qh6]; decide
 | succ k => rw [qdl]; have := qaz 4 x; omega
theorem qb7 (k x : Nat) : st3 (k + 1) x = cn x 8 + 256 * st3 k (x / 256) := by
 unfold st3
 rw [show 2 * (k + 1) = 2 * k + 1 + 1 by omega, qdl, qdl, and_sp3, cn_eight, show x / 16 / 16 = x / 256 by omega]
 have h1 := qaz 4 x
 have h2 := qaz 4 (x / 16)
 have h3 := st2_low (2 * k) (x / 256)
 generalize cn x 4 = a at *
 generalize cn (x / 16) 4 = b at *
 generalize st2 (2 * k) (x / 256) = r at *
 rw [show ((a + 16 * (b + 16 * r)) / 16 + (a + 16 * (b + 16 * r))) / 256 = r / 16 + r by omega]
 omega
theorem qjs : ∀ k x, 3 * st1 k x + 2 ≤ 2 * 4 ^ k := by
 intro k
 induction k with
 | zero => intro x; rw [st1_zero]; decide
 | succ k ih => intro x; rw [qf4, Nat.pow_succ]; have := ih (x / 4); have := qaz 2 x; omega
theorem qjt : ∀ k x, 15 * st2 k x + 4 ≤ 4 * 16 ^ k := by
 intro k
 induction k with
 | zero => intro x; rw [qh6]; decide
 | succ k ih => intro x; rw [qdl, Nat.pow_succ]; have := ih (x / 16); have := qaz 4 x; omega
theorem qju (x : Nat) : cn x 64 = cn x 8 + (cn (x / 256) 8 + (cn (x / 256 / 256) 8 + (cn (x / 256 / 256 / 256) 8 + (cn (x / 256 / 256 / 256 / 256) 8 + (cn (x / 256 / 256 / 256 / 256 / 256) 8 + (cn (x / 256 / 256 / 256 / 256 / 256 / 256) 8 + cn (x / 256 / 256 / 256 / 256 / 256 / 256 / 256) 8)))))) := by
 have h : ∀ l y, cn y (8 + l) = cn y 8 + cn (y / 256) l := fun l y => qde 8 l y
 rw [show (64 : Nat) = 8 + 56 from rfl, h, show (56 : Nat) = 8 + 48 from rfl, h, show (48 : Nat) = 8 + 40 from rfl, h, show (40 : Nat) = 8 + 32 from rfl, h, show (32 : Nat) = 8 + 24 from rfl, h, show (24 : Nat) = 8 + 16 from rfl, h, show (16 : Nat) = 8 + 8 from rfl, h]
theorem st3_form (x : Nat) : ∃ a b c d e f g h : Nat, a ≤ 8 ∧ b ≤ 8 ∧ c ≤ 8 ∧ d ≤ 8 ∧ e ≤ 8 ∧ f ≤ 8 ∧ g ≤ 8 ∧ h ≤ 8 ∧ cn x 64 = a + (b + (c + (d + (e + (f + (g + h)))))) ∧ st3 8 x = a + 256 * (b + 256 * (c + 256 * (d + 256 * (e + 256 * (f + 256 * (g + 256 * h)))))) := by
 refine ⟨_, _, _, _, _, _, _, _, qaz 8 _, qaz 8 _, qaz 8 _, qaz 8 _, qaz 8 _, qaz 8 _, qaz 8 _, qaz 8 _, qju x, ?_⟩
 rw [qb7, qb7, qb7, qb7, qb7, qb7, qb7, qb7, st3_zero, Nat.mul_zero, Nat.add_zero]
/-- The last steps add the eight bytes up. -/
theorem swar_end {X s : Nat} (H : ∃ a b c d e f g h : Nat, a ≤ 8 ∧ b ≤ 8 ∧ c ≤ 8 ∧ d ≤ 8 ∧ e ≤ 8 ∧ f ≤ 8 ∧ g ≤ 8 ∧ h ≤ 8 ∧ s = a + (b + (c + (d + (e + (f + (g + h)))))) ∧ X = a + 256 * (b + 256 * (c + 256 * (d + 256 * (e + 256 * (f + 256 * (g + 256 * h))))))) :
  ∃ Y Z W : Nat, X + X / 256 = Y ∧ Y + Y / 65536 = Z ∧ Z + Z / 4294967296 = W ∧ X < 9223372036854775808 ∧ Y < 9223372036854775808 ∧ Z < 9223372036854775808 ∧ W < 9223372036854775808 ∧ W % 128 = s := by
 obtain ⟨a, b, c, d, e, f, g, h, h1, h2, h3, h4, h5, h6, h7, h8, rfl, rfl⟩ := H
 refine ⟨(a + b) + 256 * ((b + c) + 256 * ((c + d) + 256 * ((d + e) + 256 * ((e + f) + 256 * ((f + g) + 256 * ((g + h) + 256 * h)))))),
  (a + b + c + d) + 256 * ((b + c + d + e) + 256 * ((c + d + e + f) + 256 * ((d + e + f + g) + 256 * ((e + f + g + h) + 256 * ((f + g + h) + 256 * ((g + h) + 256 * h)))))),
  (a + b + c + d + e + f + g + h) + 256 * ((b + c + d + e + f + g + h) + 256 * ((c + d + e + f + g + h) + 256 * ((d + e + f + g + h) + 256 * ((e + f + g + h) + 256 * ((f + g + h) + 256 * ((g + h) + 256 * h)))))), ?_, ?_, ?_, ?_, ?_, ?_, ?_, ?_⟩ <;> omega
theorem qbh {a b c : Nat} (h : a + b = c) (hc : c < 18446744073709551616) : IntKind.u64.wrap ((a : Int) + (b : Int)) = (c : Int) := by
 rw [IntKind.wrap_u64]
 omega
theorem jones_ok (x : Nat) (w : World) (hx : x < 18446744073709551616) :
  Calls Tryz.prog 114 #[.int .u64 (x : Int)] w fun e w' => e = .returned (.int .i64 ((cn x 64 : Nat) : Int)) ∧ w = w' := by
 obtain ⟨R, HR⟩ : ∃ R, R = cn x 64 := ⟨_, rfl⟩
 obtain ⟨Y, Z, W, hY, hZ, hW, b3, b4, b5, b6, hR⟩ := swar_end (st3_form x)
 rw [← HR] at hR ⊢
 have s1 := qjs 32 x
 have s2 := qjt 16 x
 have e3 : (st2 16 x / 16 + st2 16 x) &&& 1085102592571150095 = st3 8 x := rfl
 have e2 : (st1 32 x / 4 &&& 3689348814741910323) + (st1 32 x &&& 3689348814741910323) = st2 16 x := rfl
 have e1 : (x / 2 &&& 6148914691236517205) + (x &&& 6148914691236517205) = st1 32 x := rfl
 generalize st3 8 x = X3 at *
 generalize st2 16 x = X2 at *
 generalize st1 32 x = X1 at *
 have a1 : bits .and .u64 ((x : Int) / 2) 6148914691236517205 = ((x / 2 &&& 6148914691236517205 : Nat) : Int) := u64_and_nat (x / 2) 6148914691236517205 (by omega) (by omega)
 have a2 : bits .and .u64 (x : Int) 6148914691236517205 = ((x &&& 6148914691236517205 : Nat) : Int) := u64_and_nat x 6148914691236517205 hx (by omega)
 have a4 : bits .and .u64 ((X1 : Int) / 4) 3689348814741910323 = ((X1 / 4 &&& 3689348814741910323 : Nat) : Int) := u64_and_nat (X1 / 4) 3689348814741910323 (by omega) (by omega)
 have a5 : bits .and .u64 (X1 : Int) 3689348814741910323 = ((X1 &&& 3689348814741910323 : Nat) : Int) := u64_and_nat X1 3689348814741910323 (by omega) (by omega)
 generalize (x / 2 &&& 6148914691236517205) = A1 at *
 generalize (x &&& 6148914691236517205) = A2 at *
 generalize (X1 / 4 &&& 3689348814741910323) = A4 at *
 generalize (X1 &&& 3689348814741910323) = A5 at *
 have a3 := qbh e1 (by omega)
 have a6 := qbh e2 (by omega)
 obtain ⟨Y2, HY2⟩ : ∃ Y2, Y2 = X2 / 16 + X2 := ⟨_, rfl⟩
 rw [← HY2] at e3
 have a7 : IntKind.u64.wrap ((X2 : Int) / 16 + (X2 : Int)) = (Y2 : Int) := qbh (a := X2 / 16) HY2.symm (by omega)
 have a8 : bits .and .u64 (Y2 : Int) 1085102592571150095 = ((Y2 &&& 1085102592571150095 : Nat) : Int) := u64_and_nat Y2 1085102592571150095 (by omega) (by omega)
 rw [e3] at a8
 have a9 : IntKind.u64.wrap ((X3 : Int) + (X3 : Int) / 256) = (Y : Int) := qbh (b := X3 / 256) hY (by omega)
 have a10 : IntKind.u64.wrap ((Y : Int) + (Y : Int) / 65536) = (Z : Int) := qbh (b := Y / 65536) hZ (by omega)
 have a11 : IntKind.u64.wrap ((Z : Int) + (Z : Int) / 4294967296) = (W : Int) := qbh (b := Z / 4294967296) hW (by omega)
 have a12 : bits .and .i64 (W : Int) 127 = (R : Int) := by rw [i64_and127]; omega
 clear HY2
 clear e1 e2 e3 s1 s2 hY hZ hW hR HR
 go_enter Tryz.func114, Tryz.ntmps114
 go_wp2
 go_ret
 exact ⟨rfl, rfl⟩
theorem qjv (x : Nat) (w : World) (hx : x < 18446744073709551616) :
  Calls Tryz.prog 91 #[.int .u64 (x : Int)] w fun e w' => e = .returned (.int .i64 ((cn x 64 : Nat) : Int)) ∧ w = w' := by
 obtain ⟨R, HR⟩ : ∃ R, Hid (cn x 64 = R) := ⟨_, rfl⟩
 rw [HR.out]
 go_enter Tryz.func91, Tryz.ntmps91
 go_wp2_with (go_at_call 114; refine (jones_ok _ _ hx).mono ?_; rintro e w' ⟨rfl, rfl⟩; rw [HR.out])
 go_ret
 exact ⟨rfl, rfl⟩
open Go.RowKit
theorem qfo {n : Nat} (hn : n ≤ 64) : 2 ^ n ≤ 18446744073709551616 := Nat.pow_le_pow_right (n := 2) (by decide) hn
theorem qfp {s n : Nat} (hn : n ≤ 64) (h : s < 2 ^ n) : s < 18446744073709551616 := Nat.lt_of_lt_of_le h (qfo hn)
theorem cn_all {s n : Nat} (hn : n ≤ 64) (h : s < 2 ^ n) : cn s 64 = cn s n := by
 have h1 := (qds (s := s) (i := n) (64 - n) h).1
 rwa [show n + (64 - n) = 64 by omega] at h1
open Go.RowKit
theorem qjw {i : Nat} : (2 ^ i - 1) ||| 2 ^ i = 2 ^ (i + 1) - 1 := by
 have := Nat.two_pow_pos i
 rw [or_top (by omega), Nat.pow_succ]
 omega
theorem qh7 (k : Nat) (w : World) (hk : k ≤ 64) :
  Calls Tryz.prog 122 #[.int .i64 (k : Int)] w fun e w' => e = .returned (.tuple #[.int .u64 ((2 ^ k - 1 : Nat) : Int), .int .i64 0]) ∧ w = w' := by
 have g1 : decide ((k : Int) < 0) = false := decide_eq_false (by omega)
 have g2 : decide ((64 : Int) < (k : Int)) = false := decide_eq_false (by omega)
 obtain ⟨R, HR⟩ : ∃ R : Nat, Hid ((2 ^ k - 1 : Nat) = R) := ⟨_, rfl⟩
 rw [HR.out]
 go_enter Tryz.func122, Tryz.ntmps122
 go_wp2
 go_loop [4, 5] (fun vz vi => ∃ i z : Nat, i ≤ k ∧ Hid ((2 ^ i - 1 : Nat) = z) ∧ vi = .int .i64 (i : Int) ∧ vz = .int .u64 (z : Int)) (fun _ vi => k - (intOf vi).toNat)
 case atStart => exact ⟨0, 0, by omega, rfl, rfl, rfl⟩
 case round =>
  obtain ⟨i, z, hi, HZ, rfl, rfl⟩ := hrel
  by_cases hlt : i < k
  ·have hi6 : i < 64 := by omega
   obtain ⟨T, hT⟩ : ∃ T, 2 ^ i = T := ⟨_, rfl⟩
   obtain ⟨z', HZ'⟩ : ∃ z' : Nat, Hid ((2 ^ (i + 1) - 1 : Nat) = z') := ⟨_, rfl⟩
   have hp2 : IntKind.u64.wrap (2 ^ i) = (T : Int) := by rw [← hT]; exact qjn i hi6
   have hT6 := qcd hi6
   have hor : bits .or .u64 (z : Int) (T : Int) = (z' : Int) := by
    rw [u64_or_nat z T (by rw [← HZ.out]; omega) (by omega), ← hT, ← HZ.out, qjw, HZ'.out]
   clear hT hT6 HZ
   go_wp2
   exact ⟨⟨i + 1, z', by omega, HZ', by go_num, rfl⟩, by simp [intOf]; omega⟩
  ·obtain rfl : i = k := by omega
   have HE : Hid (z = R) := by show _ = _; rw [← HZ.out, ← HR.out]
   clear HZ HR
   go_wp2
   go_ret2
   exact ⟨by rw [← HE.out]; rfl, rfl⟩
open Go.RowKit
/-- All are numbers that a set may have. -/
def okq (q : Nat → Int) (m : Nat) : Prop := ∀ i, i < m → 0 ≤ q i ∧ q i < 64
/-- The same, by looking at each. -/
def okb (q : Nat → Int) : Nat → Bool
 | 0 => true
 | m + 1 => okb q m && (decide (0 ≤ q m) && decide (q m < 64))
theorem qjx (q : Nat → Int) : ∀ m, okb q m = true ↔ okq q m := by
 intro m
 induction m with
 | zero => exact ⟨fun _ i hi => by omega, fun _ => rfl⟩
 | succ m ih =>
  constructor
  ·intro h i hi
   have h1 : okb q m = true ∧ (0 ≤ q m ∧ q m < 64) := by simpa [okb] using h
   by_cases e : i = m
   ·rw [e]; exact h1.2
   ·exact ih.1 h1.1 i (by omega)
  ·intro h
   have h1 : okb q m = true := ih.2 (fun i hi => h i (by omega))
   have h2 := h m (by omega)
   simp [okb, h1, h2.1, h2.2]
/-- What Of answers. -/
def ofa (q : Nat → Int) (m : Nat) : Array Value := if okb q m = true then #[.int .u64 ((ofs (fun i => (q i).toNat) m : Nat) : Int), .int .i64 0] else #[.int .u64 0, .int .i64 2]
theorem qf5 {q : Nat → Int} {m : Nat} (h : okq q m) : ofa q m = #[.int .u64 ((ofs (fun i => (q i).toNat) m : Nat) : Int), .int .i64 0] := if_pos ((qjx q m).2 h)
theorem ofa_no {q : Nat → Int} {m j : Nat} (hj : j < m) (h : ¬ (0 ≤ q j ∧ q j < 64)) : ofa q m = #[.int .u64 0, .int .i64 2] := if_neg (fun o => h ((qjx q m).1 o j hj))
theorem okq_step {q : Nat → Int} {j : Nat} (h : okq q j) (hj : 0 ≤ q j ∧ q j < 64) : okq q (j + 1) := fun i hi => by
 by_cases e : i = j
 ·rw [e]; exact hj
 ·exact h i (by omega)
theorem ofs_64 {q : Nat → Int} {m : Nat} (h : okq q m) : ofs (fun i => (q i).toNat) m < 18446744073709551616 := ofs_lt (n := 64) (fun i hi => by have := h i hi; show (q i).toNat < 64; omega)
theorem qgf (w : World) (m cap : Nat) (a : Option Addr) (q : Nat → Int) (hm : m ≤ 9223372036854775807) (ha : Jl w a .i64 m q) :
  Calls Tryz.prog 66 #[.slice a m cap] w fun e w' => e = .returned (.tuple (ofa q m)) ∧ w = w' := by
 have HA : Hid (Jl w a .i64 m q) := ha
 clear ha
 go_enter Tryz.func66, Tryz.ntmps66
 go_wp2
 go_loop [4, 9] (fun vz vi => ∃ j z : Nat, j ≤ m ∧ Hid (okq q j) ∧ Hid (ofs (fun i => (q i).toNat) j = z) ∧ vi = .int .i64 (j : Int) ∧ vz = .int .u64 (z : Int)) (fun _ vi => m - (intOf vi).toNat)
 case atStart => exact ⟨0, 0, by omega, fun i hi => by omega, rfl, rfl, rfl⟩
 case round =>
  obtain ⟨j, z, hj, HK, HZ, rfl, rfl⟩ := hrel
  by_cases hlt : j < m
  ·obtain ⟨x, o, ea, hc⟩ := HA.out j hlt
   subst ea
   obtain ⟨y, HY⟩ : ∃ y, Hid (q j = y) := ⟨_, rfl⟩
   rw [HY.out] at hc
   have p0 : (0 : Int) ≤ (j : Int) := by omega
   have p1 : (j : Int) < (m : Int) := by omega
   have d1 : decide (j < m) = true := decide_eq_true hlt
   by_cases h0 : y < 0
   ·have HR : Hid (ofa q m = #[.int .u64 0, .int .i64 2]) := ofa_no hlt (by rw [HY.out]; omega)
    have c1 : decide (y < 0) = true := decide_eq_true h0
    clear HK HZ HY HA
    go_wp2
    go_ret2
    exact ⟨by rw [HR.out]; rfl, rfl⟩
   ·have c1 : decide (y < 0) = false := decide_eq_false h0
    by_cases h6 : y < 64
    ·obtain ⟨t, rfl⟩ := Int.eq_ofNat_of_zero_le (show 0 ≤ y by omega)
     have ht : t < 64 := by omega
     have HK2 : Hid (okq q (j + 1)) := okq_step HK.out (by rw [HY.out]; omega)
     obtain ⟨T, hT⟩ : ∃ T, 2 ^ t = T := ⟨_, rfl⟩
     obtain ⟨z', HZ'⟩ : ∃ z' : Nat, Hid (ofs (fun i => (q i).toNat) (j + 1) = z') := ⟨_, rfl⟩
     have hp2 : IntKind.u64.wrap (2 ^ t) = (T : Int) := by rw [← hT]; exact qjn t ht
     have hT6 := qcd ht
     have hor : bits .or .u64 (z : Int) (T : Int) = (z' : Int) := by
      rw [u64_or_nat z T (by rw [← HZ.out]; exact ofs_64 HK.out) (by omega), ← hT, ← HZ.out, ← HZ'.out]
      show _ = ((ofs (fun i => (q i).toNat) j ||| 2 ^ (q j).toNat : Nat) : Int)
      rw [HY.out]
      rfl
     have c2 : decide ((64 : Int) ≤ (t : Int)) = false := decide_eq_false (by omega)
     have c3 : decide ((63 : Int) < (t : Int)) = false := decide_eq_false (by omega)
     clear hT hT6 HK HZ HY HA
     go_wp2
     exact ⟨⟨j + 1, z', by omega, HK2, HZ', by go_num, rfl⟩, by simp [intOf]; omega⟩
    ·have HR : Hid (ofa q m = #[.int .u64 0, .int .i64 2]) := ofa_no hlt (by rw [HY.out]; omega)
     have c2 : decide ((64 : Int) ≤ y) = true := decide_eq_true (by omega)
     have c3 : decide ((63 : Int) < y) = true := decide_eq_true (by omega)
     clear HK HZ HY HA
     go_wp2
     go_ret2
     exact ⟨by rw [HR.out]; rfl, rfl⟩
  ·obtain rfl : j = m := by omega
   have HR : Hid (ofa q j = #[.int .u64 (z : Int), .int .i64 0]) := by show _ = _; rw [qf5 HK.out, HZ.out]
   clear HK HZ HA
   go_wp2
   go_ret2
   exact ⟨by rw [HR.out]; rfl, rfl⟩
open Go.RowKit
/-- A number is put behind a list of the call's own. -/
theorem Jo.push {w w2 : World} {B n : Nat} {T : TypeId} {K : IntKind} {v v' : Value} {f : Nat → Nat} {x : Nat} {o : Obj} (h : Jo w B T K v n f) (hB : B ≤ w.heap.size)
  (hown : w2.ownsRow B T 1 v' (n + 1) ((jrow K n f).toList ++ [.int K (x : Int)])) (hg : (w.alloc o).grownBy w2 v.ownBlock) : Jo w2 B T K v' (n + 1) (fun i => if i = n then x else f i) ∧ Below B w w2 := by
 refine ⟨?_, ?_⟩
 ·unfold Jo
  rw [← qit]
  exact hown
 ·have h1 : Below B w (w.alloc o) := (jlow w o).mono hB
  exact h1.trans (jbelow hg (by have := (jlow w o).size; omega) (fun g hg' => (h.base hg').1))
theorem rlist_ok (s : Nat) (w : World) (hs : s < 18446744073709551616) :
  Calls Tryz.prog 101 #[.int .u64 (s : Int)] w fun e w' => ∃ v, e = .returned v ∧ Jo w' w.heap.size 3 .i64 v (cn s 64) (lf s 64) ∧ Below w.heap.size w w' := by
 obtain ⟨i0, hi0, hz0, hz1, hz2⟩ := info_parts ji64
 have HN : Hid (Jo w w.heap.size 3 .i64 (.slice none 0 0) 0 (lf s 0)) := Jo.nil _ _ _ _ _
 go_enter Tryz.func101, Tryz.ntmps101
 go_wp2
 go_loopw [3, 4] (fun v vi wr => ∃ i : Nat, i ≤ 64 ∧ vi = .int .i64 (i : Int) ∧ Jo wr w.heap.size 3 .i64 v (cn s i) (lf s i) ∧ Below w.heap.size w wr) (fun _ vi _ => 64 - (intOf vi).toNat)
 case atStart => exact ⟨0, by omega, rfl, HN.out, Below.refl _ _⟩
 case round =>
  obtain ⟨i, hi, rfl, I, hb⟩ := hrel
  obtain ⟨ps, pd, rfl, hpn⟩ := I.form
  have HI : Hid (Jo wr w.heap.size 3 .i64 (.slice ps (cn s i) pd) (cn s i) (lf s i)) := I
  have HB : Hid (Below w.heap.size w wr) := hb
  have hcn := qaz i s
  obtain ⟨t, HT⟩ : ∃ t, Hid (cn s i = t) := ⟨_, rfl⟩
  rw [HT.out] at HI hcn hpn I ⊢
  clear I hb HN
  by_cases hlt : i < 64
  ·by_cases hbit : bt s i = 1
   ·have hdb : decide (bt s i = 1) = true := decide_eq_true hbit
    have hml2 : t + 1 ≤ maxLen := by unfold maxLen; omega
    have hwsz := HB.out.size
    have HC : Hid (cn s (i + 1) = t + 1) := by show _ = _; rw [qbt, hbit, HT.out]
    have HL : Hid (∀ k, k < t + 1 → (if k = t then i else lf s i k) = lf s (i + 1) k) := fun k _ => by rw [lf_in hbit, HT.out]
    clear hbit
    go_wp2_with (first
     | (go_at_call 35; refine (qdk s i _ hs hlt).mono ?_; rintro e w' ⟨rfl, rfl⟩; rw [hdb])
     | (at_builtin; refine wpList_append_own _ rfl _ _ 89 rfl w.heap.size 3 i0 (.int .i64 0) 1 8 Tryz.underlying89 hi0 hz0 hz1 hz2 rfl (by decide) _ t _ rfl (World.ownsRow.alloc HI.out _) ⟨wr.heap.size, 0, none⟩ 1 1 [.int .i64 (i : Int)] rfl rfl (qcn _ _ _ _) (qco _ _) hml2 (by omega) (by simp; omega) ?_; intro v' w6 hown' hgrow' _; have HO6 := HI.out.push HB.out.size hown' hgrow'; clear hown' hgrow'))
    exact ⟨⟨i + 1, by omega, by go_num, by rw [HC.out]; exact HO6.1.congr HL.out, HB.out.trans HO6.2⟩, by simp [intOf]; omega⟩
   ·have hdb : decide (bt s i = 1) = false := decide_eq_false hbit
    have hb0 : bt s i = 0 := by have := bt_lt s i; omega
    have HC : Hid (cn s (i + 1) = t) := by show _ = _; rw [qbt, hb0, HT.out]; rfl
    have HL : Hid (∀ k, k < t → lf s i k = lf s (i + 1) k) := fun k _ => (qgp hb0 k).symm
    clear hbit hb0
    go_wp2_with (go_at_call 35; refine (qdk s i _ hs hlt).mono ?_; rintro e w' ⟨rfl, rfl⟩; rw [hdb])
    exact ⟨⟨i + 1, by omega, by go_num, by rw [HC.out]; exact HI.out.congr HL.out, HB.out⟩, by simp [intOf]; omega⟩
  ·obtain rfl : i = 64 := by omega
   go_wp2
   go_ret
   exact ⟨_, rfl, by rw [HT.out]; exact HI.out, HB.out⟩
theorem qcx (s : Nat) (w : World) (hs : s < 18446744073709551616) :
  Calls Tryz.prog 65 #[.int .u64 (s : Int)] w fun e w' => ∃ v, e = .returned v ∧ Jo w' w.heap.size 3 .i64 v (cn s 64) (lf s 64) ∧ Below w.heap.size w w' := by
 obtain ⟨i0, hi0, hz0, hz1, hz2⟩ := info_parts ji64
 obtain ⟨k, HK⟩ : ∃ k, Hid (cn s 64 = k) := ⟨_, rfl⟩
 have hk : k ≤ 64 := by rw [← HK.out]; exact qaz 64 s
 have HE : Hid ((jrow .i64 0 (lf s 0)).toList = []) := by simp [jrow, Hid]
 go_enter Tryz.func65, Tryz.ntmps65
 go_wp2_with (first
  | (go_at_call 91; refine (qjv s _ hs).mono ?_; rintro e w' ⟨rfl, rfl⟩; rw [HK.out])
  | (at_make; refine wpList_make_own _ rfl _ _ 89 rfl w.heap.size 3 i0 (.int .i64 0) 1 Tryz.underlying89 hi0 hz0 hz1 .i64 .i64 _ k rfl rfl rfl (by rw [hz2]; omega) (by unfold maxLen; omega) (Nat.le_refl _) ?_; intro w1 hown hgrow; have HN : Hid (Jo w1 w.heap.size 3 .i64 (.slice (some ⟨w.heap.size, 0, none⟩) 0 k) 0 (lf s 0)) := (by unfold Jo; rw [HE.out]; exact hown); have HB1 : Hid (Below w.heap.size w w1) := jgrown.mp hgrow; clear hown hgrow))
 go_loopw [0, 3, 4] (fun vs v vi wr => ∃ i z : Nat, i ≤ 64 ∧ Hid (s / 2 ^ i = z) ∧ vs = .int .u64 (z : Int) ∧ vi = .int .i64 (i : Int) ∧ Jo wr w.heap.size 3 .i64 v (cn s i) (lf s i) ∧ Below w.heap.size w wr) (fun vs _ _ _ => (intOf vs).toNat)
 case atStart => exact ⟨0, s, by omega, (by show _ = _; rw [Nat.pow_zero, Nat.div_one]), rfl, rfl, HN.out, HB1.out⟩
 case round =>
  clear HN HB1 HE
  obtain ⟨i, z, hi, HZ, rfl, rfl, I, hb⟩ := hrel
  obtain ⟨ps, pd, rfl, hpn⟩ := I.form
  have HI : Hid (Jo wr w.heap.size 3 .i64 (.slice ps (cn s i) pd) (cn s i) (lf s i)) := I
  have HB : Hid (Below w.heap.size w wr) := hb
  have hcn := qaz i s
  obtain ⟨t, HT⟩ : ∃ t, Hid (cn s i = t) := ⟨_, rfl⟩
  rw [HT.out] at HI hcn hpn I ⊢
  clear I hb
  have hz6 : z < 18446744073709551616 := by rw [← HZ.out]; exact qh5 s i hs
  by_cases hz : z = 0
  ·have HLow : Hid (s < 2 ^ i) := by
    show _ < _
    apply Classical.byContradiction
    intro hn
    have := Nat.div_pos (Nat.le_of_not_lt hn) (Nat.two_pow_pos i)
    rw [HZ.out] at this
    omega
   subst hz
   have HC : Hid (k = t) := by show _ = _; rw [← HK.out, ← HT.out]; have := (qds (s := s) (i := i) (64 - i) HLow.out).1; rwa [show i + (64 - i) = 64 by omega] at this
   have HL : Hid (∀ u, u < t → lf s i u = lf s 64 u) := fun u _ => by have := (qds (s := s) (i := i) (64 - i) HLow.out).2 u; rw [show i + (64 - i) = 64 by omega] at this; exact this.symm
   go_wp2
   go_ret
   exact ⟨_, rfl, by rw [HK.out, HC.out]; exact HI.out.congr HL.out, HB.out⟩
  ·have hi64 : i < 64 := by
    apply Classical.byContradiction
    intro hn
    obtain rfl : i = 64 := by omega
    have h := HZ.out
    rw [Nat.div_eq_of_lt (show s < 2 ^ 64 from hs)] at h
    omega
   have hne : ((z : Int) == 0) = false := by simp only [beq_eq_false_iff_ne, ne_eq]; omega
   have hbz : bits .and .u64 (z : Int) 1 = ((bt s i : Nat) : Int) := by rw [← HZ.out]; exact j_bit s i hs
   obtain ⟨z', hz'⟩ : ∃ z', z / 2 = z' := ⟨_, rfl⟩
   have HZ2 : Hid (s / 2 ^ (i + 1) = z') := by show _ = _; rw [← div_up, HZ.out, hz']
   have e1 : (z : Int) / 2 = (z' : Int) := by omega
   by_cases hbit : bt s i = 1
   ·have hbz1 : bits .and .u64 (z : Int) 1 = 1 := by rw [hbz, hbit]; rfl
    have hml2 : t + 1 ≤ maxLen := by unfold maxLen; omega
    have hwsz := HB.out.size
    have HC : Hid (cn s (i + 1) = t + 1) := by show _ = _; rw [qbt, hbit, HT.out]
    have HL : Hid (∀ k, k < t + 1 → (if k = t then i else lf s i k) = lf s (i + 1) k) := fun k _ => by rw [lf_in hbit, HT.out]
    have hzz : z' < z := by omega
    clear hbit HZ hbz hz6 hz' hz hs HK
    go_wp2_with (at_builtin; refine wpList_append_own _ rfl _ _ 89 rfl w.heap.size 3 i0 (.int .i64 0) 1 8 Tryz.underlying89 hi0 hz0 hz1 hz2 rfl (by decide) _ t _ rfl (World.ownsRow.alloc HI.out _) ⟨wr.heap.size, 0, none⟩ 1 1 [.int .i64 (i : Int)] rfl rfl (qcn _ _ _ _) (qco _ _) hml2 (by omega) (by simp; omega) ?_; intro v' w6 hown' hgrow' _; have HO6 := HI.out.push HB.out.size hown' hgrow'; clear hown' hgrow')
    exact ⟨⟨i + 1, z', by omega, HZ2, by go_num, by go_num, by rw [HC.out]; exact HO6.1.congr HL.out, HB.out.trans HO6.2⟩, by simp [intOf]; omega⟩
   ·have hb0 : bt s i = 0 := by have := bt_lt s i; omega
    have hbz1 : bits .and .u64 (z : Int) 1 = 0 := by rw [hbz, hb0]; rfl
    have HC : Hid (cn s (i + 1) = t) := by show _ = _; rw [qbt, hb0, HT.out]; rfl
    have HL : Hid (∀ k, k < t → lf s i k = lf s (i + 1) k) := fun k _ => (qgp hb0 k).symm
    have hzz : z' < z := by omega
    clear hbit hb0 HZ hbz hz6 hz' hz hs HK
    go_wp2
    exact ⟨⟨i + 1, z', by omega, HZ2, by go_num, by go_num, by rw [HC.out]; exact HI.out.congr HL.out, HB.out⟩, by simp [intOf]; omega⟩
end Go.Proofs.YtmgfeepnkahkmaaGreat
