/-
  Contracts of the sets' plain calls: Has, first, Full, isSetOf, portion.
  How many bits are set: math/bits.OnesCount64, and Count.
  Contracts of Choose and Upto.
  Contracts of Place and At.
-/
import Derived.Test.YtblagbghpfopcaaGreatQwwin00
import Derived.Test.YtblagbghpfopcaaGreatQwwin02
set_option maxRecDepth 100000
set_option maxHeartbeats 16000000
namespace Go.Proofs.YtblagbghpfopcaaGreat
open Go.RowKit
theorem qic (s i : Nat) : (s : Int) / 2 ^ i = ((s / 2 ^ i : Nat) : Int) := by simp
theorem j_shr (s i : Nat) (hs : s < 18446744073709551616) : (s : Int) / 2 ^ min i 64 = ((s / 2 ^ i : Nat) : Int) := by
 rw [qic]
 by_cases h : i ≤ 64
 ·rw [Nat.min_eq_left h]
 ·rw [Nat.min_eq_right (by omega), Nat.div_eq_of_lt (show s < 2 ^ 64 from hs), Nat.div_eq_of_lt (Nat.lt_of_lt_of_le (show s < 2 ^ 64 from hs) (Nat.pow_le_pow_right (by decide) (by omega)))]
theorem qid (s i : Nat) (hs : s < 18446744073709551616) : s / 2 ^ i < 18446744073709551616 := Nat.lt_of_le_of_lt (Nat.div_le_self _ _) hs
theorem j_bit (s i : Nat) (hs : s < 18446744073709551616) : bits .and .u64 ((s / 2 ^ i : Nat) : Int) 1 = ((bt s i : Nat) : Int) := by
 have h := u64_and_nat (s / 2 ^ i) 1 (qid s i hs) (by decide)
 rw [Nat.and_one_is_mod] at h
 exact h
theorem j_bit' (s i : Nat) (hs : s < 18446744073709551616) : bits .and .u64 ((s : Int) / 2 ^ i) 1 = ((bt s i : Nat) : Int) := by rw [qic, j_bit s i hs]
theorem qbg {i : Nat} (h : i < 64) : 2 ^ i < 18446744073709551616 := Nat.pow_lt_pow_right (a := 2) (by decide) h
theorem qf1 (i : Nat) (h : i < 64) : IntKind.u64.wrap (2 ^ i) = ((2 ^ i : Nat) : Int) := by
 have h1 := qbg h
 have e : ((2 : Int) ^ i) = ((2 ^ i : Nat) : Int) := by simp
 rw [e, IntKind.wrap_u64]
 generalize 2 ^ i = z at h1 ⊢
 omega
theorem j_first (i : Nat) (h : i ≤ 64) : IntKind.u64.wrap (IntKind.u64.wrap (2 ^ i) - 1) = ((2 ^ i - 1 : Nat) : Int) := by
 by_cases h1 : i < 64
 ·have h2 := qbg h1
  have h3 := Nat.two_pow_pos i
  rw [qf1 i h1, IntKind.wrap_u64]
  generalize 2 ^ i = z at h2 h3
  omega
 ·obtain rfl : i = 64 := by omega
  decide
theorem j_bool {n : Nat} : ((n : Int) == 1) = decide (n = 1) := by
 by_cases h : n = 1
 ·subst h; rfl
 ·rw [decide_eq_false h]
  simp only [beq_eq_false_iff_ne, ne_eq]
  omega
theorem qg2 (s i : Nat) (w : World) (hs : s < 18446744073709551616) :
  Calls Tryz.prog 51 #[.int .u64 (s : Int), .int .i64 (i : Int)] w fun e w' => e = .returned (.bool (decide (bt s i = 1))) ∧ w = w' := by
 have h1 : (s : Int) / 2 ^ min i 64 = (s : Int) / 2 ^ i := by rw [j_shr s i hs, qic]
 have h2 := j_bit' s i hs
 go_enter Tryz.func51, Tryz.ntmps51
 go_wp2
 go_ret
 exact ⟨by rw [← j_bool]; rfl, rfl⟩
theorem qd8 (s i : Nat) (w : World) (hs : s < 18446744073709551616) (hi : i < 64) :
  Calls Tryz.prog 20 #[.int .u64 (s : Int), .int .i64 (i : Int)] w fun e w' => e = .returned (.bool (decide (bt s i = 1))) ∧ w = w' := by
 have h2 := j_bit' s i hs
 go_enter Tryz.func20, Tryz.ntmps20
 go_wp2
 go_ret
 exact ⟨by rw [← j_bool]; rfl, rfl⟩
theorem qei (k : Nat) (w : World) (hk : k ≤ 64) :
  Calls Tryz.prog 89 #[.int .i64 (k : Int)] w fun e w' => e = .returned (.int .u64 ((2 ^ k - 1 : Nat) : Int)) ∧ w = w' := by
 have h1 := j_first k hk
 go_enter Tryz.func89, Tryz.ntmps89
 go_wp2
 go_ret
 exact ⟨rfl, rfl⟩
theorem qcf (n : Nat) (w : World) (hn : n ≤ 64) :
  Calls Tryz.prog 74 #[.int .i64 (n : Int)] w fun e w' => e = .returned (.bool true) ∧ w = w' := by
 have h2 : decide ((n : Int) ≤ 64) = true := decide_eq_true (by omega)
 go_enter Tryz.func74, Tryz.ntmps74
 go_wp2
 go_ret
 exact ⟨rfl, rfl⟩
theorem jset_ok (s n : Nat) (w : World) (hn : n ≤ 64) :
  Calls Tryz.prog 117 #[.int .i64 (n : Int), .int .u64 (s : Int)] w fun e w' => e = .returned (.bool (decide (s < 2 ^ n))) ∧ w = w' := by
 go_enter Tryz.func117, Tryz.ntmps117
 go_wp2
 go_ret
 refine ⟨?_, rfl⟩
 show Ending.returned (.bool ((s : Int) / 2 ^ n == 0)) = _
 rw [qic]
 congr 2
 by_cases h : s < 2 ^ n
 ·rw [decide_eq_true h, Nat.div_eq_of_lt h]; rfl
 ·have h2 := Nat.div_pos (Nat.le_of_not_lt h) (Nat.two_pow_pos n)
  rw [decide_eq_false h]
  simp only [beq_eq_false_iff_ne, ne_eq]
  omega
theorem jfull_ok (k : Nat) (w : World) (hk : k ≤ 64) :
  Calls Tryz.prog 59 #[.int .i64 (k : Int)] w fun e w' => e = .returned (.tuple #[.int .u64 ((2 ^ k - 1 : Nat) : Int), .int .i64 0]) ∧ w = w' := by
 obtain ⟨z, HZ⟩ : ∃ z : Nat, Hid ((2 ^ k - 1 : Nat) = z) := ⟨_, rfl⟩
 rw [HZ.out]
 go_enter Tryz.func59, Tryz.ntmps59
 go_wp2_with (first
  | (go_at_call 74; refine (qcf _ _ hk).mono ?_; rintro e w' ⟨rfl, rfl⟩)
  | (go_at_call 89; refine (qei _ _ hk).mono ?_; rintro e w' ⟨rfl, rfl⟩; rw [HZ.out]))
 go_ret2
 exact ⟨rfl, rfl⟩
theorem qlj {a b c r : Nat} (ha : a ≤ 1832624140942590534) (hb : b ≤ 64) (hc : c ≤ 65) (hc0 : 0 < c) (hr : r ≤ 1832624140942590534) (h : a * b = r * c) :
  wrap64 (wrap64 (wrap64 ((a : Int) / (c : Int)) * (b : Int)) + wrap64 ((wrap64 ((a : Int) % (c : Int) * (b : Int))).tdiv (c : Int))) = (r : Int) := by
 have h1 := qj7 hc0 h
 have h2 : a / c ≤ a := Nat.div_le_self _ _
 have h3 : a % c < c := Nat.mod_lt _ hc0
 have h4 : a % c * b ≤ 65 * 64 := Nat.mul_le_mul (by omega) hb
 have e1 : (a : Int) / (c : Int) = ((a / c : Nat) : Int) := by simp
 have e2 : (a : Int) % (c : Int) = ((a % c : Nat) : Int) := by simp
 rw [e1, e2]
 generalize a / c = q at *
 generalize a % c = m at *
 have w1 : wrap64 (q : Int) = (q : Int) := IntWalk.wrap64_in _ (by omega)
 have e3 : (m : Int) * (b : Int) = ((m * b : Nat) : Int) := rfl
 have e4 : (q : Int) * (b : Int) = ((q * b : Nat) : Int) := rfl
 rw [w1, e3, e4]
 clear e1 e2 e3 e4 w1 h2 h3 h
 generalize m * b = x at *
 generalize q * b = y at *
 have w2 : wrap64 (x : Int) = (x : Int) := IntWalk.wrap64_in _ (by omega)
 have e5 : (x : Int).tdiv (c : Int) = ((x / c : Nat) : Int) := rfl
 rw [w2, e5]
 clear w2 e5
 generalize x / c = z at *
 have w3 : wrap64 (y : Int) = (y : Int) := IntWalk.wrap64_in _ (by omega)
 have w4 : wrap64 (z : Int) = (z : Int) := IntWalk.wrap64_in _ (by omega)
 rw [w3, w4, IntWalk.wrap64_in _ (by omega)]
 omega
theorem qej (a b c r : Nat) (w : World) (ha : a ≤ 1832624140942590534) (hb : b ≤ 64) (hc : c ≤ 65) (hc0 : 0 < c) (hr : r ≤ 1832624140942590534) (h : a * b = r * c) :
  Calls Tryz.prog 93 #[.int .i64 (a : Int), .int .i64 (b : Int), .int .i64 (c : Int)] w fun e w' => e = .returned (.int .i64 (r : Int)) ∧ Below w.heap.size w w' := by
 have hc1 : ¬ (c : Int) = 0 := by omega
 have hc2 : ((c : Int) == 0) = false := by simp; omega
 go_enter Tryz.func93, Tryz.ntmps93
 go_wp2
 go_quiet (fail)
 go_wp2
 go_ret
 exact ⟨congrArg (fun z => Ending.returned (.int .i64 z)) (qlj ha hb hc hc0 hr h), below_drewN (Below.refl _ _) _⟩
open Go.RowKit
theorem qg3 (b x y : Nat) : x &&& y = ((x % 2 ^ b) &&& (y % 2 ^ b)) + 2 ^ b * (x / 2 ^ b &&& y / 2 ^ b) := by
 rw [← Nat.and_mod_two_pow, ← Nat.and_div_two_pow, Nat.mod_add_div]
def sp1 : Nat → Nat | 0 => 0 | k + 1 => 1 + 4 * sp1 k
def sp2 : Nat → Nat | 0 => 0 | k + 1 => 3 + 16 * sp2 k
def sp3 : Nat → Nat | 0 => 0 | k + 1 => 15 + 256 * sp3 k
theorem qlk (k z : Nat) : z &&& sp1 (k + 1) = z % 2 + 4 * (z / 4 &&& sp1 k) := by
 show z &&& (1 + 4 * sp1 k) = _
 have h := qg3 2 z (1 + 4 * sp1 k)
 rw [show (2 : Nat) ^ 2 = 4 from rfl, show (1 + 4 * sp1 k) % 4 = 1 by omega, show (1 + 4 * sp1 k) / 4 = sp1 k by omega, Nat.and_one_is_mod] at h
 omega
theorem qll (k z : Nat) : z &&& sp2 (k + 1) = z % 4 + 16 * (z / 16 &&& sp2 k) := by
 show z &&& (3 + 16 * sp2 k) = _
 have h := qg3 4 z (3 + 16 * sp2 k)
 have h2 := Nat.and_two_pow_sub_one_eq_mod (z % 16) 2
 rw [show (2 : Nat) ^ 2 - 1 = 3 from rfl] at h2
 rw [show (2 : Nat) ^ 4 = 16 from rfl, show (3 + 16 * sp2 k) % 16 = 3 by omega, show (3 + 16 * sp2 k) / 16 = sp2 k by omega, h2] at h
 omega
theorem and_sp3 (k z : Nat) : z &&& sp3 (k + 1) = z % 16 + 256 * (z / 256 &&& sp3 k) := by
 show z &&& (15 + 256 * sp3 k) = _
 have h := qg3 8 z (15 + 256 * sp3 k)
 have h2 := Nat.and_two_pow_sub_one_eq_mod (z % 256) 4
 rw [show (2 : Nat) ^ 4 - 1 = 15 from rfl] at h2
 rw [show (2 : Nat) ^ 8 = 256 from rfl, show (15 + 256 * sp3 k) % 256 = 15 by omega, show (15 + 256 * sp3 k) / 256 = sp3 k by omega, h2] at h
 omega
/-- The first step: each pair of bits becomes their sum. -/
def st1 (k x : Nat) : Nat := (x / 2 &&& sp1 k) + (x &&& sp1 k)
def st2 (k x : Nat) : Nat := (st1 (2 * k) x / 4 &&& sp2 k) + (st1 (2 * k) x &&& sp2 k)
def st3 (k x : Nat) : Nat := (st2 (2 * k) x / 16 + st2 (2 * k) x) &&& sp3 k
theorem qg4 (k x : Nat) : st1 (k + 1) x = cn x 2 + 4 * st1 k (x / 4) := by
 unfold st1
 rw [qlk, qlk, show x / 2 / 4 = x / 4 / 2 by omega]
 show _ = x % 2 + (x / 2 % 2 + 0) + _
 omega
theorem cn_four (x : Nat) : cn x 4 = cn x 2 + cn (x / 4) 2 := qds 2 2 x
theorem cn_eight (x : Nat) : cn x 8 = cn x 4 + cn (x / 16) 4 := qds 4 4 x
theorem qdy (k x : Nat) : st2 (k + 1) x = cn x 4 + 16 * st2 k (x / 16) := by
 unfold st2
 rw [show 2 * (k + 1) = 2 * k + 1 + 1 by omega, qg4, qg4, qll, qll, cn_four, show x / 4 / 4 = x / 16 by omega]
 have h1 := qb0 2 x
 have h2 := qb0 2 (x / 4)
 generalize cn x 2 = a at *
 generalize cn (x / 4) 2 = b at *
 generalize st1 (2 * k) (x / 16) = r at *
 rw [show (a + 4 * (b + 4 * r)) / 4 / 16 = r / 4 by omega, show (a + 4 * (b + 4 * r)) / 16 = r by omega]
 omega
theorem qie (x : Nat) : st2 0 x = 0 := by
 show (_ &&& 0) + (_ &&& 0) = 0
 rw [Nat.and_zero, Nat.and_zero]
theorem st1_zero (x : Nat) : st1 0 x = 0 := by
 show (_ &&& 0) + (_ &&& 0) = 0
 rw [Nat.and_zero, Nat.and_zero]
theorem st3_zero (x : Nat) : st3 0 x = 0 := Nat.and_zero _
theorem st2_low (k x : Nat) : st2 k x % 16 ≤ 4 := by
 cases k with
 | zero => rw [qie]; decide
 | succ k => rw [qdy]; have := qb0 4 x; omega
theorem qbh (k x : Nat) : st3 (k + 1) x = cn x 8 + 256 * st3 k (x / 256) := by
 unfold st3
 rw [show 2 * (k + 1) = 2 * k + 1 + 1 by omega, qdy, qdy, and_sp3, cn_eight, show x / 16 / 16 = x / 256 by omega]
 have h1 := qb0 4 x
 have h2 := qb0 4 (x / 16)
 have h3 := st2_low (2 * k) (x / 256)
 generalize cn x 4 = a at *
 generalize cn (x / 16) 4 = b at *
 generalize st2 (2 * k) (x / 256) = r at *
 rw [show ((a + 16 * (b + 16 * r)) / 16 + (a + 16 * (b + 16 * r))) / 256 = r / 16 + r by omega]
 omega
theorem qlm : ∀ k x, 3 * st1 k x + 2 ≤ 2 * 4 ^ k := by
 intro k
 induction k with
 | zero => intro x; rw [st1_zero]; decide
 | succ k ih => intro x; rw [qg4, Nat.pow_succ]; have := ih (x / 4); have := qb0 2 x; omega
theorem qln : ∀ k x, 15 * st2 k x + 4 ≤ 4 * 16 ^ k := by
 intro k
 induction k with
 | zero => intro x; rw [qie]; decide
 | succ k ih => intro x; rw [qdy, Nat.pow_succ]; have := ih (x / 16); have := qb0 4 x; omega
theorem qlo (x : Nat) : cn x 64 = cn x 8 + (cn (x / 256) 8 + (cn (x / 256 / 256) 8 + (cn (x / 256 / 256 / 256) 8 + (cn (x / 256 / 256 / 256 / 256) 8 + (cn (x / 256 / 256 / 256 / 256 / 256) 8 + (cn (x / 256 / 256 / 256 / 256 / 256 / 256) 8 + cn (x / 256 / 256 / 256 / 256 / 256 / 256 / 256) 8)))))) := by
 have h : ∀ l y, cn y (8 + l) = cn y 8 + cn (y / 256) l := fun l y => qds 8 l y
 rw [show (64 : Nat) = 8 + 56 from rfl, h, show (56 : Nat) = 8 + 48 from rfl, h, show (48 : Nat) = 8 + 40 from rfl, h, show (40 : Nat) = 8 + 32 from rfl, h, show (32 : Nat) = 8 + 24 from rfl, h, show (24 : Nat) = 8 + 16 from rfl, h, show (16 : Nat) = 8 + 8 from rfl, h]
theorem st3_form (x : Nat) : ∃ a b c d e f g h : Nat, a ≤ 8 ∧ b ≤ 8 ∧ c ≤ 8 ∧ d ≤ 8 ∧ e ≤ 8 ∧ f ≤ 8 ∧ g ≤ 8 ∧ h ≤ 8 ∧ cn x 64 = a + (b + (c + (d + (e + (f + (g + h)))))) ∧ st3 8 x = a + 256 * (b + 256 * (c + 256 * (d + 256 * (e + 256 * (f + 256 * (g + 256 * h)))))) := by
 refine ⟨_, _, _, _, _, _, _, _, qb0 8 _, qb0 8 _, qb0 8 _, qb0 8 _, qb0 8 _, qb0 8 _, qb0 8 _, qb0 8 _, qlo x, ?_⟩
 rw [qbh, qbh, qbh, qbh, qbh, qbh, qbh, qbh, st3_zero, Nat.mul_zero, Nat.add_zero]
/-- The last steps add the eight bytes up. -/
theorem swar_end {X s : Nat} (H : ∃ a b c d e f g h : Nat, a ≤ 8 ∧ b ≤ 8 ∧ c ≤ 8 ∧ d ≤ 8 ∧ e ≤ 8 ∧ f ≤ 8 ∧ g ≤ 8 ∧ h ≤ 8 ∧ s = a + (b + (c + (d + (e + (f + (g + h)))))) ∧ X = a + 256 * (b + 256 * (c + 256 * (d + 256 * (e + 256 * (f + 256 * (g + 256 * h))))))) :
  ∃ Y Z W : Nat, X + X / 256 = Y ∧ Y + Y / 65536 = Z ∧ Z + Z / 4294967296 = W ∧ X < 9223372036854775808 ∧ Y < 9223372036854775808 ∧ Z < 9223372036854775808 ∧ W < 9223372036854775808 ∧ W % 128 = s := by
 obtain ⟨a, b, c, d, e, f, g, h, h1, h2, h3, h4, h5, h6, h7, h8, rfl, rfl⟩ := H
 refine ⟨(a + b) + 256 * ((b + c) + 256 * ((c + d) + 256 * ((d + e) + 256 * ((e + f) + 256 * ((f + g) + 256 * ((g + h) + 256 * h)))))),
  (a + b + c + d) + 256 * ((b + c + d + e) + 256 * ((c + d + e + f) + 256 * ((d + e + f + g) + 256 * ((e + f + g + h) + 256 * ((f + g + h) + 256 * ((g + h) + 256 * h)))))),
  (a + b + c + d + e + f + g + h) + 256 * ((b + c + d + e + f + g + h) + 256 * ((c + d + e + f + g + h) + 256 * ((d + e + f + g + h) + 256 * ((e + f + g + h) + 256 * ((f + g + h) + 256 * ((g + h) + 256 * h)))))), ?_, ?_, ?_, ?_, ?_, ?_, ?_, ?_⟩ <;> omega
theorem qbo {a b c : Nat} (h : a + b = c) (hc : c < 18446744073709551616) : IntKind.u64.wrap ((a : Int) + (b : Int)) = (c : Int) := by
 rw [IntKind.wrap_u64]
 omega
theorem jones_ok (x : Nat) (w : World) (hx : x < 18446744073709551616) :
  Calls Tryz.prog 73 #[.int .u64 (x : Int)] w fun e w' => e = .returned (.int .i64 ((cn x 64 : Nat) : Int)) ∧ w = w' := by
 obtain ⟨R, HR⟩ : ∃ R, R = cn x 64 := ⟨_, rfl⟩
 obtain ⟨Y, Z, W, hY, hZ, hW, b3, b4, b5, b6, hR⟩ := swar_end (st3_form x)
 rw [← HR] at hR ⊢
 have s1 := qlm 32 x
 have s2 := qln 16 x
 have e3 : (st2 16 x / 16 + st2 16 x) &&& 1085102592571150095 = st3 8 x := rfl
 have e2 : (st1 32 x / 4 &&& 3689348814741910323) + (st1 32 x &&& 3689348814741910323) = st2 16 x := rfl
 have e1 : (x / 2 &&& 6148914691236517205) + (x &&& 6148914691236517205) = st1 32 x := rfl
 generalize st3 8 x = X3 at *
 generalize st2 16 x = X2 at *
 generalize st1 32 x = X1 at *
 have a1 : bits .and .u64 ((x : Int) / 2) 6148914691236517205 = ((x / 2 &&& 6148914691236517205 : Nat) : Int) := u64_and_nat (x / 2) 6148914691236517205 (by omega) (by omega)
 have a2 : bits .and .u64 (x : Int) 6148914691236517205 = ((x &&& 6148914691236517205 : Nat) : Int) := u64_and_nat x 6148914691236517205 hx (by omega)
 have a4 : bits .and .u64 ((X1 : Int) / 4) 3689348814741910323 = ((X1 / 4 &&& 3689348814741910323 : Nat) : Int) := u64_and_nat (X1 / 4) 3689348814741910323 (by omega) (by omega)
 have a5 : bits .and .u64 (X1 : Int) 3689348814741910323 = ((X1 &&& 3689348814741910323 : Nat) : Int) := u64_and_nat X1 3689348814741910323 (by omega) (by omega)
 generalize (x / 2 &&& 6148914691236517205) = A1 at *
 generalize (x &&& 6148914691236517205) = A2 at *
 generalize (X1 / 4 &&& 3689348814741910323) = A4 at *
 generalize (X1 &&& 3689348814741910323) = A5 at *
 have a3 := qbo e1 (by omega)
 have a6 := qbo e2 (by omega)
 obtain ⟨Y2, HY2⟩ : ∃ Y2, Y2 = X2 / 16 + X2 := ⟨_, rfl⟩
 rw [← HY2] at e3
 have a7 : IntKind.u64.wrap ((X2 : Int) / 16 + (X2 : Int)) = (Y2 : Int) := qbo (a := X2 / 16) HY2.symm (by omega)
 have a8 : bits .and .u64 (Y2 : Int) 1085102592571150095 = ((Y2 &&& 1085102592571150095 : Nat) : Int) := u64_and_nat Y2 1085102592571150095 (by omega) (by omega)
 rw [e3] at a8
 have a9 : IntKind.u64.wrap ((X3 : Int) + (X3 : Int) / 256) = (Y : Int) := qbo (b := X3 / 256) hY (by omega)
 have a10 : IntKind.u64.wrap ((Y : Int) + (Y : Int) / 65536) = (Z : Int) := qbo (b := Y / 65536) hZ (by omega)
 have a11 : IntKind.u64.wrap ((Z : Int) + (Z : Int) / 4294967296) = (W : Int) := qbo (b := Z / 4294967296) hW (by omega)
 have a12 : bits .and .i64 (W : Int) 127 = (R : Int) := by rw [i64_and127]; omega
 clear HY2
 clear e1 e2 e3 s1 s2 hY hZ hW hR HR
 go_enter Tryz.func73, Tryz.ntmps73
 go_wp2
 go_ret
 exact ⟨rfl, rfl⟩
theorem qek (x : Nat) (w : World) (hx : x < 18446744073709551616) :
  Calls Tryz.prog 41 #[.int .u64 (x : Int)] w fun e w' => e = .returned (.int .i64 ((cn x 64 : Nat) : Int)) ∧ w = w' := by
 obtain ⟨R, HR⟩ : ∃ R, Hid (cn x 64 = R) := ⟨_, rfl⟩
 rw [HR.out]
 go_enter Tryz.func41, Tryz.ntmps41
 go_wp2_with (go_at_call 73; refine (jones_ok _ _ hx).mono ?_; rintro e w' ⟨rfl, rfl⟩; rw [HR.out])
 go_ret
 exact ⟨rfl, rfl⟩
open Go.RowKit
theorem qfd (n k x y : Nat) (w : World) (hn : n ≤ 64) (hk : k ≤ n) (HX : Hid (bin n k = x)) (HY : Hid (bin n (k + 1) = y)) :
  Calls Tryz.prog 75 #[.int .i64 (x : Int), .int .i64 (n : Int), .int .i64 (k : Int)] w fun e w' => e = .returned (.int .i64 (y : Int)) ∧ Below w.heap.size w w' := by
 obtain ⟨p, hp⟩ : ∃ p, n - k = p := ⟨_, rfl⟩
 obtain ⟨q, hq⟩ : ∃ q, k + 1 = q := ⟨_, rfl⟩
 have H : Hid (∀ w' : World, Calls Tryz.prog 93 #[.int .i64 (x : Int), .int .i64 (p : Int), .int .i64 (q : Int)] w' fun e w'' => e = .returned (.int .i64 (y : Int)) ∧ Below w'.heap.size w' w'') :=
  fun w' => qej x p q y w' (by rw [← HX.out]; exact qb8 hn) (by omega) (by omega) (by omega) (by rw [← HY.out]; exact qb8 hn) (by rw [← HX.out, ← HY.out, ← hp, ← hq]; exact (qht n k).symm)
 have e1 : (n : Int) - (k : Int) = (p : Int) := by omega
 have e2 : (k : Int) + 1 = (q : Int) := by omega
 go_enter Tryz.func75, Tryz.ntmps75
 go_wp2_with (go_at_call 93; refine (H.out _).mono ?_; rintro e w1 ⟨rfl, hb⟩)
 go_ret
 exact ⟨rfl, hb⟩
theorem qjl (l m x y L : Nat) (w : World) (hn : l + 1 ≤ 64) (hm : m ≤ 64) (HX : Hid (bin (l + 1) m = x)) (HY : Hid (bw l m = y)) (hL : L = l + 1) :
  Calls Tryz.prog 116 #[.int .i64 (x : Int), .int .i64 (m : Int), .int .i64 (L : Int)] w fun e w' => e = .returned (.int .i64 (y : Int)) ∧ Below w.heap.size w w' := by
 have H : Hid (∀ w' : World, Calls Tryz.prog 93 #[.int .i64 (x : Int), .int .i64 (m : Int), .int .i64 (L : Int)] w' fun e w'' => e = .returned (.int .i64 (y : Int)) ∧ Below w'.heap.size w' w'') :=
  fun w' => qej x m L y w' (by rw [← HX.out]; exact qb8 hn) hm (by omega) (by omega) (by rw [← HY.out]; exact Nat.le_trans (bw_le l m) (qb8 hn)) (by rw [← HX.out, ← HY.out, hL]; exact bw_part l m)
 clear HX HY hL hn hm
 go_enter Tryz.func116, Tryz.ntmps116
 go_wp2_with (go_at_call 93; refine (H.out _).mono ?_; rintro e w1 ⟨rfl, hb⟩)
 go_ret
 exact ⟨rfl, hb⟩
theorem qel (n : Nat) (k : Int) (w : World) (hn : n ≤ 64) (hk : k < 0 ∨ n < k) :
  Calls Tryz.prog 115 #[.int .i64 (n : Int), .int .i64 k] w fun e w' => e = .returned (.tuple #[.int .i64 0, .int .i64 0]) ∧ w = w' := by
 by_cases h : k < 0
 ·go_enter Tryz.func115, Tryz.ntmps115
  go_wp2_with (go_at_call 74; refine (qcf _ _ hn).mono ?_; rintro e w' ⟨rfl, rfl⟩)
  go_ret2
  exact ⟨rfl, rfl⟩
 ·have h1 : (n : Int) < k := by omega
  have h2 : 0 ≤ k := by omega
  clear h hk
  go_enter Tryz.func115, Tryz.ntmps115
  go_wp2_with (go_at_call 74; refine (qcf _ _ hn).mono ?_; rintro e w' ⟨rfl, rfl⟩)
  go_ret2
  exact ⟨rfl, rfl⟩
theorem qjm (n k : Nat) (w : World) (hn : n ≤ 64) (hk : k ≤ n) :
  Calls Tryz.prog 115 #[.int .i64 (n : Int), .int .i64 (k : Int)] w fun e w' => e = .returned (.tuple #[.int .i64 ((bin n k : Nat) : Int), .int .i64 0]) ∧ Below w.heap.size w w' := by
 obtain ⟨M, HM⟩ : ∃ M, min k (n - k) = M := ⟨_, rfl⟩
 have hmn : min (k : Int) ((n : Int) - (k : Int)) = (M : Int) := by omega
 have g1 : decide ((k : Int) < 0) = false := decide_eq_false (by omega)
 have g2 : decide (n < k) = false := decide_eq_false (by omega)
 have g3 : decide ((n : Int) < (k : Int)) = false := decide_eq_false (by omega)
 go_enter Tryz.func115, Tryz.ntmps115
 go_wp2_with (go_at_call 74; refine (qcf _ _ hn).mono ?_; rintro e w' ⟨rfl, rfl⟩)
 go_loopw [6, 25] (fun f i wr => ∃ j x : Nat, j ≤ M ∧ Hid (bin n j = x) ∧ i = .int .i64 (j : Int) ∧ f = .int .i64 (x : Int) ∧ Below w.heap.size w wr) (fun _ i _ => M - (intOf i).toNat)
 case atStart => exact ⟨0, 1, by omega, qan n, rfl, rfl, Below.refl _ _⟩
 case round =>
  obtain ⟨j, x, hj, HX, rfl, rfl, hb⟩ := hrel
  have HB : Hid (Below w.heap.size w wr) := hb
  clear hb
  by_cases hlt : j < M
  ·obtain ⟨y, HY⟩ : ∃ y, Hid (bin n (j + 1) = y) := ⟨_, rfl⟩
   have hjn : j ≤ n := by omega
   go_wp2_with (go_at_call 75; refine (qfd n j x y _ hn hjn HX HY).mono ?_; rintro e w1 ⟨rfl, hb1⟩; have HB1 : Hid (Below w.heap.size w w1) := jtwo HB.out hb1; clear hb1)
   exact ⟨⟨j + 1, y, by omega, HY, by go_num, rfl, HB1.out⟩, by simp [intOf]; omega⟩
  ·have HR : Hid (x = bin n k) := by
    show _ = _
    rw [← HX.out]
    rcases (by omega : j = k ∨ j = n - k) with e | e
    ·rw [e]
    ·rw [e]; exact (bin_symm n k hk).symm
   clear HX
   go_wp2
   go_ret2
   exact ⟨by rw [← HR.out]; rfl, HB.out⟩
/-- What Choose tells: a number, or nothing of the kind. -/
def chs (n k : Int) : Nat := if 0 ≤ k then bin n.toNat k.toNat else 0
theorem qlp (n k : Nat) : chs n k = bin n k := if_pos (Int.natCast_nonneg k)
theorem qjn (n : Nat) (k : Int) (w : World) (hn : n ≤ 64) :
  Calls Tryz.prog 115 #[.int .i64 (n : Int), .int .i64 k] w fun e w' => e = .returned (.tuple #[.int .i64 ((chs n k : Nat) : Int), .int .i64 0]) ∧ Below w.heap.size w w' := by
 by_cases h : 0 ≤ k
 ·obtain ⟨j, rfl⟩ := Int.eq_ofNat_of_zero_le h
  rw [qlp]
  by_cases h2 : j ≤ n
  ·exact qjm n j w hn h2
  ·rw [qbk n j (by omega)]
   exact (qel n j w hn (by omega)).mono (fun e w' h => ⟨h.1, h.2 ▸ Below.refl _ _⟩)
 ·have e : chs n k = 0 := if_neg h
  rw [e]
  exact (qel n k w hn (by omega)).mono (fun e w' h => ⟨h.1, h.2 ▸ Below.refl _ _⟩)
/-- What Upto tells. -/
def upv (n : Nat) (t : Int) : Nat := upt6 n (min t n + 1).toNat
def upa (u : Nat) : Array Value := if u ≤ 4611686018427387904 then #[.int .i64 (u : Int), .int .i64 0] else #[.int .i64 0, .int .i64 4]
theorem jupto_ok (n : Nat) (t : Int) (w : World) (hn : n ≤ 64) :
  Calls Tryz.prog 43 #[.int .i64 (n : Int), .int .i64 t] w fun e w' => e = .returned (.tuple (upa (upv n t))) ∧ Below w.heap.size w w' := by
 obtain ⟨u, HU⟩ : ∃ u, Hid (upv n t = u) := ⟨_, rfl⟩
 obtain ⟨m, HM⟩ : ∃ m, Hid ((min t n + 1).toNat = m) := ⟨_, rfl⟩
 have HU2 : Hid (upt6 n m = u) := by show _ = _; rw [← HM.out]; exact HU.out
 rw [HU.out]
 obtain ⟨mn, hmn⟩ : ∃ mn, min t (n : Int) = mn := ⟨_, rfl⟩
 have hm : ∀ j : Nat, (j : Int) ≤ mn ↔ j < m := by intro j; rw [← HM.out, ← hmn]; omega
 have hmn2 : m ≤ n + 1 := by rw [← HM.out]; omega
 go_enter Tryz.func43, Tryz.ntmps43
 go_wp2_with (go_at_call 74; refine (qcf _ _ hn).mono ?_; rintro e w' ⟨rfl, rfl⟩)
 go_loopw [6, 7, 8] (fun v f i wr => ∃ j x z : Nat, j ≤ m ∧ Hid (bin n j = x) ∧ Hid (upt6 n j = z) ∧ z ≤ 4611686018427387904 ∧ i = .int .i64 (j : Int) ∧ f = .int .i64 (x : Int) ∧ v = .int .i64 (z : Int) ∧ Below w.heap.size w wr) (fun _ _ i _ => m - (intOf i).toNat)
 case atStart => exact ⟨0, 1, 0, by omega, qan n, rfl, by omega, rfl, rfl, rfl, Below.refl _ _⟩
 case round =>
  obtain ⟨j, x, z, hj, HX, HZ, hz, rfl, rfl, rfl, hb⟩ := hrel
  have HB : Hid (Below w.heap.size w wr) := hb
  clear hb
  have hx : x ≤ 1832624140942590534 := by rw [← HX.out]; exact qb8 hn
  by_cases hlt : j < m
  ·have c1 : decide ((j : Int) ≤ mn) = true := decide_eq_true ((hm j).2 hlt)
   obtain ⟨y, HY⟩ : ∃ y, Hid (bin n (j + 1) = y) := ⟨_, rfl⟩
   obtain ⟨z', hz'⟩ : ∃ z', z + x = z' := ⟨_, rfl⟩
   have HZ' : Hid (upt6 n (j + 1) = z') := by show upt6 n j + bin n j = _; rw [HX.out, HZ.out, hz']
   have e1 : (z : Int) + (x : Int) = (z' : Int) := by omega
   have hz2 : z' ≤ 9223372036854775807 := by omega
   have hjn : j ≤ n := by omega
   have HLE : Hid (z' ≤ u) := by show _ ≤ _; rw [← HZ'.out, ← HU2.out]; exact qkf (by omega)
   clear hz' hx hz HU HU2 HM
   by_cases hbig : z' ≤ 4611686018427387904
   ·have c2 : decide ((4611686018427387904 : Int) < (z' : Int)) = false := decide_eq_false (by omega)
    go_wp2_with (go_at_call 75; refine (qfd n j x y _ hn hjn HX HY).mono ?_; rintro e w1 ⟨rfl, hb1⟩; have HB1 : Hid (Below w.heap.size w w1) := jtwo HB.out hb1; clear hb1)
    exact ⟨⟨j + 1, y, z', by omega, HY, HZ', hbig, by go_num, rfl, rfl, HB1.out⟩, by simp [intOf]; omega⟩
   ·have c2 : decide ((4611686018427387904 : Int) < (z' : Int)) = true := decide_eq_true (by omega)
    go_wp2
    go_ret2
    exact ⟨by rw [upa, if_neg (by have := HLE.out; omega)]; rfl, HB.out⟩
  ·have c1 : decide ((j : Int) ≤ mn) = false := decide_eq_false (by rw [hm j]; exact hlt)
   obtain rfl : j = m := by omega
   have HR : Hid (z = u) := by show _ = _; rw [← HZ.out, ← HU2.out]
   clear HX HU2 HZ
   go_wp2
   go_ret2
   exact ⟨by rw [← HR.out, upa, if_pos hz]; rfl, HB.out⟩
open Go.RowKit
theorem qem {n : Nat} (hn : n ≤ 64) : 2 ^ n ≤ 18446744073709551616 := Nat.pow_le_pow_right (n := 2) (by decide) hn
theorem qc7 {s n : Nat} (hn : n ≤ 64) (h : s < 2 ^ n) : s < 18446744073709551616 := Nat.lt_of_lt_of_le h (qem hn)
theorem qfe {s n : Nat} (hn : n ≤ 64) (h : s < 2 ^ n) : cn s 64 = cn s n := by
 have h1 := (qe7 (s := s) (i := n) (64 - n) h).1
 rwa [show n + (64 - n) = 64 by omega] at h1
/-- At, halfway: z is made so far. -/
def AtI (n j m x q z R : Nat) : Prop := m ≤ 64 ∧ bin (n - j) m = x ∧ q < x ∧ z < 2 ^ j ∧ z + 2 ^ j * aset (n - j) m q = R
theorem AtI.inn {n j m x q z R l : Nat} (I : AtI n j m x q z R) (hl : n - j = l + 1) (h : q < bw l m) : 0 < m ∧ AtI n (j + 1) (m - 1) (bw l m) q (z + 2 ^ j) R := by
 obtain ⟨a, b, c, d, e⟩ := I
 have e1 : n - (j + 1) = l := by omega
 cases m with
 | zero => exact absurd h (Nat.not_lt_zero _)
 | succ m =>
  refine ⟨by omega, by omega, by rw [e1]; rfl, h, by rw [Nat.pow_succ]; omega, ?_⟩
  rw [e1, ← e, hl, qfn h, Nat.pow_succ, Nat.mul_add, Nat.mul_assoc]
  omega
theorem AtI.out {n j m x q z R l : Nat} (I : AtI n j m x q z R) (hl : n - j = l + 1) (h : ¬ q < bw l m) : bw l m ≤ x ∧ AtI n (j + 1) m (x - bw l m) (q - bw l m) z R := by
 obtain ⟨a, b, c, d, e⟩ := I
 have e1 : n - (j + 1) = l := by omega
 rw [hl] at b e
 have h1 := qf4 l m
 refine ⟨by omega, a, by rw [e1]; omega, by omega, by rw [Nat.pow_succ]; omega, ?_⟩
 rw [e1, ← e, qdt h, Nat.pow_succ, Nat.mul_assoc]
theorem jat_ok (n k p : Nat) (w : World) (hn : n ≤ 64) (hk : k ≤ n) (hp : p < bin n k) :
  Calls Tryz.prog 95 #[.int .i64 (n : Int), .int .i64 (k : Int), .int .i64 (p : Int)] w fun e w' => e = .returned (.tuple #[.int .u64 ((aset n k p : Nat) : Int), .int .i64 0]) ∧ Below w.heap.size w w' := by
 obtain ⟨x, HX⟩ : ∃ x, Hid (bin n k = x) := ⟨_, rfl⟩
 obtain ⟨R, HR⟩ : ∃ R, Hid (aset n k p = R) := ⟨_, rfl⟩
 have HST : Hid (AtI n 0 k x p 0 R) := ⟨by omega, HX.out, by rw [← HX.out]; exact hp, by omega, by rw [Nat.pow_zero, Nat.sub_zero, Nat.one_mul, Nat.zero_add]; exact HR.out⟩
 have hxs : x ≤ 1832624140942590534 := by rw [← HX.out]; exact qb8 hn
 rw [HX.out] at hp
 have g1 : decide ((p : Int) < 0) = false := decide_eq_false (by omega)
 have g2 : decide (x ≤ p) = false := decide_eq_false (by omega)
 have g3 : decide ((x : Int) ≤ (p : Int)) = false := decide_eq_false (by omega)
 rw [HR.out]
 go_enter Tryz.func95, Tryz.ntmps95
 go_wp2_with (
  (go_at_call 115; refine (qjn n k _ hn).mono ?_; rintro e w1 ⟨rfl, hb⟩; rw [qlp, HX.out]; have HB0 : Hid (Below w.heap.size w w1) := hb; clear hb))
 go_loopw [2, 8, 10, 11, 33] (fun vq vx vz vm i wr => ∃ j m x q z : Nat, j ≤ n ∧ Hid (AtI n j m x q z R) ∧ i = .int .i64 (j : Int) ∧ vm = .int .i64 (m : Int) ∧ vx = .int .i64 (x : Int) ∧ vq = .int .i64 (q : Int) ∧ vz = .int .u64 (z : Int) ∧ Below w.heap.size w wr) (fun _ _ _ _ i _ => n - (intOf i).toNat)
 case atStart => exact ⟨0, k, x, p, 0, by omega, HST, rfl, rfl, rfl, rfl, rfl, HB0.out⟩
 case round =>
  clear HB0 HST HX hxs
  obtain ⟨j, m, x, q, z, hj, HI, rfl, rfl, rfl, rfl, rfl, hb⟩ := hrel
  have HB : Hid (Below w.heap.size w wr) := hb
  clear hb
  by_cases hlt : j < n
  ·obtain ⟨l, hl⟩ : ∃ l, n - j = l + 1 := ⟨n - j - 1, by omega⟩
   obtain ⟨L, hL⟩ : ∃ L, L = l + 1 := ⟨_, rfl⟩
   obtain ⟨y, HY⟩ : ∃ y, Hid (bw l m = y) := ⟨_, rfl⟩
   have e1 : (n : Int) - (j : Int) = (L : Int) := by omega
   have HX : Hid (bin (l + 1) m = x) := by show _ = _; rw [← hl]; exact HI.out.2.1
   have hm : m ≤ 64 := HI.out.1
   have hq : q < x := HI.out.2.2.1
   have hz : z < 2 ^ j := HI.out.2.2.2.1
   have hxs : x ≤ 1832624140942590534 := by rw [← HX.out]; exact qb8 (by omega)
   have HH : Hid (∀ w' : World, Calls Tryz.prog 116 #[.int .i64 (x : Int), .int .i64 (m : Int), .int .i64 (L : Int)] w' fun e w'' => e = .returned (.int .i64 (y : Int)) ∧ Below w'.heap.size w' w'') := fun w' => qjl l m x y L w' (by omega) hm HX HY hL
   by_cases hbit : q < y
   ·obtain ⟨hm0, HI2⟩ := HI.out.inn hl (by rw [HY.out]; exact hbit)
    obtain ⟨m', hm'⟩ : ∃ m', m - 1 = m' := ⟨_, rfl⟩
    obtain ⟨T, hT⟩ : ∃ T, 2 ^ j = T := ⟨_, rfl⟩
    obtain ⟨z', hz'⟩ : ∃ z', z + T = z' := ⟨_, rfl⟩
    have hj6 : j < 64 := by omega
    have hp2 : IntKind.u64.wrap (2 ^ j) = (T : Int) := by rw [← hT]; exact qf1 j hj6
    have hT6 := qbg hj6
    have hor : bits .or .u64 (z : Int) (T : Int) = (z' : Int) := by
     rw [u64_or_nat z T (by omega) (by omega), ← hT, qke hz, hT, hz']
    have HI3 : Hid (AtI n (j + 1) m' y q z' R) := by rw [HY.out, hm', hT, hz'] at HI2; exact HI2
    have e2 : (m : Int) - 1 = (m' : Int) := by omega
    have hm6 : m' ≤ 64 := by omega
    have c1 : decide ((q : Int) < (y : Int)) = true := decide_eq_true (by omega)
    have c2 : decide (q < y) = true := decide_eq_true hbit
    clear HI HI2 HX HY hl hL hz hT hz' hT6 hq
    go_wp2_with (go_at_call 116; refine (HH.out _).mono ?_; rintro e w2 ⟨rfl, hb2⟩; have HB2 : Hid (Below w.heap.size w w2) := jtwo HB.out hb2; clear hb2)
    exact ⟨⟨j + 1, m', y, q, z', by omega, HI3, by go_num, by go_num, rfl, rfl, rfl, HB2.out⟩, by simp [intOf]; omega⟩
   ·obtain ⟨h1, HI2⟩ := HI.out.out hl (by rw [HY.out]; exact hbit)
    have HI3 : Hid (AtI n (j + 1) m (x - y) (q - y) z R) := by rw [HY.out] at HI2; exact HI2
    rw [HY.out] at h1
    obtain ⟨x', hx'⟩ : ∃ x', x - y = x' := ⟨_, rfl⟩
    obtain ⟨q', hq'⟩ : ∃ q', q - y = q' := ⟨_, rfl⟩
    rw [hx', hq'] at HI3
    have e2 : (x : Int) - (y : Int) = (x' : Int) := by omega
    have e3 : (q : Int) - (y : Int) = (q' : Int) := by omega
    have hq6 : q' ≤ 1832624140942590534 := by omega
    have c1 : decide ((q : Int) < (y : Int)) = false := decide_eq_false (by omega)
    have c2 : decide (q < y) = false := decide_eq_false hbit
    clear HI HI2 HX HY hl hL hz hx' hq' hq
    go_wp2_with (go_at_call 116; refine (HH.out _).mono ?_; rintro e w2 ⟨rfl, hb2⟩; have HB2 : Hid (Below w.heap.size w w2) := jtwo HB.out hb2; clear hb2)
    exact ⟨⟨j + 1, m, x', q', z, by omega, HI3, by go_num, rfl, by go_num, by go_num, rfl, HB2.out⟩, by simp [intOf]; omega⟩
  ·obtain rfl : j = n := by omega
   have HRR : Hid (z = R) := by have := HI.out.2.2.2.2; rw [Nat.sub_self, show aset 0 m q = 0 from rfl, Nat.mul_zero, Nat.add_zero] at this; exact this
   clear HI
   go_wp2
   go_ret2
   exact ⟨by rw [← HRR.out]; rfl, HB.out⟩
end Go.Proofs.YtblagbghpfopcaaGreat
