/-
  Cells of any size: isPart, isCell, how far apart, Turn; Made.
-/
import Derived.Test.YtbhidokfclchlaaK1c
import Derived.Test.YtbhidokfclchlaaK2a
namespace Go.Proofs.Ytbhidokfclchlaa
open Go.RowKit
theorem gabs (x : Nat) (a : Int) (hx : Gw x a) : ∃ r, Gw r (a.natAbs : Int) ∧ ∀ w, Calls Try.prog 14 #[.float .f64 x] w fun e w' => e = .returned (.float .f64 r) ∧ w = w' := by
  obtain ⟨r, hr⟩ : ∃ r, x % 2 ^ 63 = r := ⟨_, rfl⟩
  have hF : Gw r (a.natAbs : Int) := hr ▸ gw_abs hx
  have hl := u64_low x hx.1
  rw [hr] at hl
  refine ⟨r, hF, fun w => ?_⟩
  have hb := fun w => pbits x w
  have hf := fun w => pfrom r w
  clear hx hr hF
  go_enter Try.func14, Try.ntmps14
  go_wp2_with (first | simp only [hb] | simp only [hf])
  go_ret
  exact ⟨rfl, rfl⟩
theorem gtrunc (x : Nat) (a : Int) (hx : Gw x a) (ha : a.natAbs < 2 ^ 53) : ∃ r, Gw r a ∧ ∀ w, Calls Try.prog 19 #[.float .f64 x] w fun e w' => e = .returned (.float .f64 r) ∧ w = w' := by
  obtain ⟨g, s, i, h⟩ := gw_number hx
  obtain ⟨m, hm⟩ : ∃ m, FloatKind.f64.encode ((FloatKind.f64.decode x).integral .zero) = m := ⟨_, rfl⟩
  have hF : Gw m a := hm ▸ gw_trunc hx ha
  refine ⟨m, hF, fun w => ?_⟩
  have ht := fun w => parch x s m g i w h hm
  clear hx ha h hm hF
  go_enter Try.func19, Try.ntmps19
  go_wp2_with (simp only [ht])
  go_ret
  exact ⟨rfl, rfl⟩
theorem gw_lit {x : Nat} {n : Int} (h : floatOfInt .f64 n = x) (hn : n.natAbs < 2 ^ 53) : Gw x n := h ▸ gw_of n hn
theorem cmp_low {a b : Int} (h : a ≤ b) : compare a b = .lt ∨ compare a b = .eq := by
  show compareOfLessAndEq a b = .lt ∨ compareOfLessAndEq a b = .eq
  unfold compareOfLessAndEq
  by_cases h1 : a < b
  · exact Or.inl (if_pos h1)
  · exact Or.inr (by rw [if_neg h1, if_pos (by omega)])
set_option maxHeartbeats 400000 in
theorem gispart (x : Nat) (a : Int) (w : World) (hx : Gw x a) (ha : -1048576 ≤ a ∧ a ≤ 1048576) :
    Calls Try.prog 13 #[.float .f64 x] w fun e w' => e = .returned (.bool true) ∧ w = w' := by
  obtain ⟨r, hr, HT⟩ := gtrunc x a hx (by omega)
  have h3 : FloatKind.f64.format.order x r = some .eq := by rw [gw_order hx hr]; simp
  have h1 := gw_order (gw_lit (x := 13920626448202203136) (n := -1048576) (by decide +kernel) (by decide)) hx
  have h2 := gw_order hx (gw_lit (x := 4697254411347427328) (n := 1048576) (by decide +kernel) (by decide))
  rcases cmp_low ha.1 with e1 | e1 <;> rcases cmp_low ha.2 with e2 | e2 <;> (
    rw [e1] at h1
    rw [e2] at h2
    go_enter Try.func13, Try.ntmps13
    go_wp2_with (go_at_call 19; refine (HT _).mono ?_; rintro e w' ⟨rfl, rfl⟩)
    go_ret
    exact ⟨rfl, rfl⟩)
set_option maxHeartbeats 400000 in
theorem giscell (x y : Nat) (a b : Int) (w : World) (hx : Gw x a) (hy : Gw y b) (ha : -1048576 ≤ a ∧ a ≤ 1048576) (hb : -1048576 ≤ b ∧ b ≤ 1048576) :
    Calls Try.prog 8 #[.complex .f64 x y] w fun e w' => e = .returned (.bool true) ∧ w = w' := by
  go_enter Try.func8, Try.ntmps8
  go_wp2_with (first
    | (have _m := m1; go_at_call 13; refine (gispart y b _ hy hb).mono ?_; rintro e w' ⟨rfl, rfl⟩)
    | (go_at_call 13; refine (gispart x a _ hx ha).mono ?_; rintro e w' ⟨rfl, rfl⟩; have m1 : True := trivial))
  go_ret
  exact ⟨rfl, rfl⟩
set_option maxHeartbeats 400000 in
theorem gapart (x y u v : Nat) (a b c d : Int) (w : World) (hx : Gw x a) (hy : Gw y b) (hu : Gw u c) (hv : Gw v d) (ha : -1048576 ≤ a ∧ a ≤ 1048576) (hb : -1048576 ≤ b ∧ b ≤ 1048576) (hc : -1048576 ≤ c ∧ c ≤ 1048576) (hd : -1048576 ≤ d ∧ d ≤ 1048576) :
    Calls Try.prog 9 #[.complex .f64 x y, .complex .f64 u v] w fun e w' => e = .returned (.int .i64 (((a - c).natAbs + (b - d).natAbs : Nat) : Int)) ∧ w = w' := by
  obtain ⟨p, ep, fp⟩ := gw_sub hx hu (by omega)
  obtain ⟨q, eq, fq⟩ := gw_sub hy hv (by omega)
  have hs : cSumBits .sub .f64 x y u v = some (p, q) := by simp [cSumBits, ep, eq]
  have hop := fun t w => run_complex_sum (P := Try.prog) w .sub (Or.inr rfl) t .f64 x y u v p q hs
  obtain ⟨r1, f1, H1⟩ := gabs p (a - c) fp
  obtain ⟨r2, f2, H2⟩ := gabs q (b - d) fq
  obtain ⟨s, es, fs⟩ := gw_add f1 f2 (by omega)
  have had := (fun t w => run_float_arith (P := Try.prog) w .add t .f64 r1 r2 s es)
  have hcv := (fun w => run_convert_float_int (P := Try.prog) w 34 3 .f64 .i64 s _ (by rw [Try.underlying34]; rfl) Try.underlying3 (gw_int fs (by omega)))
  rw [Int.natCast_add]
  clear hs ep eq fp fq f1 f2 es fs hx hy hu hv
  go_enter Try.func9, Try.ntmps9
  go_wp2_with (first
    | (have _m := m1; go_at_call 14; refine (H2 _).mono ?_; rintro e w' ⟨rfl, rfl⟩)
    | (go_at_call 14; refine (H1 _).mono ?_; rintro e w' ⟨rfl, rfl⟩; have m1 : True := trivial))
  go_ret
  exact ⟨rfl, rfl⟩
set_option maxHeartbeats 400000 in
theorem gapart2 (x y u v : Nat) (a b c d : Int) (w : World) (hx : Gw x a) (hy : Gw y b) (hu : Gw u c) (hv : Gw v d) (ha : -1048576 ≤ a ∧ a ≤ 1048576) (hb : -1048576 ≤ b ∧ b ≤ 1048576) (hc : -1048576 ≤ c ∧ c ≤ 1048576) (hd : -1048576 ≤ d ∧ d ≤ 1048576) :
    Calls Try.prog 6 #[.complex .f64 x y, .complex .f64 u v] w fun e w' => e = .returned (.tuple #[.int .i64 (((a - c).natAbs + (b - d).natAbs : Nat) : Int), .int .i64 0]) ∧ w = w' := by
  obtain ⟨N, HN⟩ : ∃ N : Nat, Hid ((a - c).natAbs + (b - d).natAbs = N) := ⟨_, rfl⟩
  rw [HN.out]
  go_enter Try.func6, Try.ntmps6
  go_wp2_with (first
    | (have _m := m1; go_at_call 8; refine (giscell u v c d _ hu hv hc hd).mono ?_; rintro e w' ⟨rfl, rfl⟩)
    | (go_at_call 8; refine (giscell x y a b _ hx hy ha hb).mono ?_; rintro e w' ⟨rfl, rfl⟩; have m1 : True := trivial)
    | (go_at_call 9; refine (gapart x y u v a b c d _ hx hy hu hv ha hb hc hd).mono ?_; rintro e w' ⟨rfl, rfl⟩; rw [HN.out]))
  go_ret2
  exact ⟨rfl, rfl⟩
/-- Turned left so many times. -/
def rtx : Nat → Int → Int → Int × Int
  | 0, a, b => (a, b)
  | k + 1, a, b => (-(rtx k a b).2, (rtx k a b).1)
theorem rtx_fit (a b : Int) (ha : -1048576 ≤ a ∧ a ≤ 1048576) (hb : -1048576 ≤ b ∧ b ≤ 1048576) : ∀ k, (-1048576 ≤ (rtx k a b).1 ∧ (rtx k a b).1 ≤ 1048576) ∧ (-1048576 ≤ (rtx k a b).2 ∧ (rtx k a b).2 ≤ 1048576) := by
  intro k
  induction k with
  | zero => exact ⟨ha, hb⟩
  | succ k ih =>
    show (-1048576 ≤ -(rtx k a b).2 ∧ -(rtx k a b).2 ≤ 1048576) ∧ (-1048576 ≤ (rtx k a b).1 ∧ (rtx k a b).1 ≤ 1048576)
    omega
theorem gw_turn {a b : Nat} {m n : Int} (h1 : Gw a m) (h2 : Gw b n) (l1 : -1048576 ≤ m ∧ m ≤ 1048576) (l2 : -1048576 ≤ n ∧ n ≤ 1048576) :
    ∃ x y, cMulBits a b 0 4607182418800017408 = some (x, y) ∧ Gw x (-n) ∧ Gw y m := by
  have h3 : Gw 0 0 := gw_lit (by decide +kernel) (by decide)
  have h4 : Gw 4607182418800017408 1 := gw_lit (by decide +kernel) (by decide)
  obtain ⟨ac, e1, f1⟩ := gw_mul h1 h3 (by rw [Int.mul_zero]; decide)
  obtain ⟨bd, e2, f2⟩ := gw_mul h2 h4 (by rw [Int.mul_one]; omega)
  rw [Int.mul_zero] at f1
  rw [Int.mul_one] at f2
  obtain ⟨x, e3, f3⟩ := gw_sub f1 f2 (by omega)
  obtain ⟨ad, e4, f4⟩ := gw_mul h1 h4 (by rw [Int.mul_one]; omega)
  obtain ⟨bc, e5, f5⟩ := gw_mul h2 h3 (by rw [Int.mul_zero]; decide)
  rw [Int.mul_one] at f4
  rw [Int.mul_zero] at f5
  obtain ⟨y, e6, f6⟩ := gw_add f4 f5 (by omega)
  rw [Int.zero_sub] at f3
  rw [Int.add_zero] at f6
  exact ⟨x, y, by simp [cMulBits, e1, e2, e3, e4, e5, e6], f3, f6⟩
/-- The words on the way. -/
def twx : Nat → Nat → Nat → Nat × Nat
  | 0, x, y => (x, y)
  | k + 1, x, y => (cMulBits (twx k x y).1 (twx k x y).2 0 4607182418800017408).getD (0, 0)
theorem twx_ok {x y : Nat} {a b : Int} (hx : Gw x a) (hy : Gw y b) (ha : -1048576 ≤ a ∧ a ≤ 1048576) (hb : -1048576 ≤ b ∧ b ≤ 1048576) : ∀ k, Gw (twx k x y).1 (rtx k a b).1 ∧ Gw (twx k x y).2 (rtx k a b).2 ∧ cMulBits (twx k x y).1 (twx k x y).2 0 4607182418800017408 = some ((twx (k + 1) x y).1, (twx (k + 1) x y).2) := by
  have one : ∀ k, Gw (twx k x y).1 (rtx k a b).1 → Gw (twx k x y).2 (rtx k a b).2 → cMulBits (twx k x y).1 (twx k x y).2 0 4607182418800017408 = some ((twx (k + 1) x y).1, (twx (k + 1) x y).2) ∧ Gw (twx (k + 1) x y).1 (rtx (k + 1) a b).1 ∧ Gw (twx (k + 1) x y).2 (rtx (k + 1) a b).2 := by
    intro k g1 g2
    have hf := rtx_fit a b ha hb k
    obtain ⟨u, v, e, gu, gv⟩ := gw_turn g1 g2 hf.1 hf.2
    have e2 : twx (k + 1) x y = (u, v) := by
      show (cMulBits (twx k x y).1 (twx k x y).2 0 4607182418800017408).getD (0, 0) = _
      rw [e]
      rfl
    rw [e2]
    exact ⟨e, gu, gv⟩
  intro k
  induction k with
  | zero => exact ⟨hx, hy, (one 0 hx hy).1⟩
  | succ k ih =>
    have h := one k ih.1 ih.2.1
    exact ⟨h.2.1, h.2.2, (one (k + 1) h.2.1 h.2.2).1⟩
theorem and3_all : ((List.range 1025).all fun (i : Nat) => decide (bits .and .i64 ((i : Int) - 512) 3 = ((i : Int) - 512) % 4)) = true := by decide +kernel
theorem and3 {q : Int} (h : -512 ≤ q ∧ q ≤ 512) : bits .and .i64 q 3 = q % 4 := by
  have := List.all_eq_true.1 and3_all (q + 512).toNat (by rw [List.mem_range]; omega)
  have e : (((q + 512).toNat : Nat) : Int) - 512 = q := by omega
  rw [e] at this
  exact of_decide_eq_true this
set_option maxHeartbeats 1000000 in
theorem gturn (x y : Nat) (a b q : Int) (hx : Gw x a) (hy : Gw y b) (ha : -1048576 ≤ a ∧ a ≤ 1048576) (hb : -1048576 ≤ b ∧ b ≤ 1048576) (hq : -512 ≤ q ∧ q ≤ 512) :
    ∃ r s, Gw r (rtx (q % 4).toNat a b).1 ∧ Gw s (rtx (q % 4).toNat a b).2 ∧ ∀ w, Calls Try.prog 5 #[.complex .f64 x y, .int .i64 q] w fun e w' => e = .returned (.tuple #[.complex .f64 r s, .int .i64 0]) ∧ w = w' := by
  obtain ⟨k, hk⟩ : ∃ k : Nat, q % 4 = (k : Int) := ⟨(q % 4).toNat, by omega⟩
  rw [hk, Int.toNat_natCast]
  have hk4 : k < 4 := by omega
  have h3 := and3 hq
  rw [hk] at h3
  obtain ⟨X, Y, hX⟩ : ∃ X Y : Nat → Nat, ∀ j, twx j x y = (X j, Y j) := ⟨fun j => (twx j x y).1, fun j => (twx j x y).2, fun _ => rfl⟩
  have T := twx_ok hx hy ha hb
  have hf := rtx_fit a b ha hb k
  have g1 := (T k).1
  have g2 := (T k).2.1
  rw [hX] at g1 g2
  have z0 : Gw 0 0 := gw_lit (by decide +kernel) (by decide)
  obtain ⟨r, er, fr⟩ := gw_add g1 z0 (by show ((rtx k a b).1 + 0).natAbs < _; omega)
  obtain ⟨s, es, fs⟩ := gw_add g2 z0 (by show ((rtx k a b).2 + 0).natAbs < _; omega)
  rw [Int.add_zero] at fr fs
  refine ⟨r, s, fr, fs, fun w => ?_⟩
  have hs : cSumBits .add .f64 (X k) (Y k) 0 0 = some (r, s) := by
    have er : floatBits .add .f64 (X k) 0 = some r := er
    have es : floatBits .add .f64 (Y k) 0 = some s := es
    simp [cSumBits, er, es]
  have hop := fun t w => run_complex_sum (P := Try.prog) w .add (Or.inl rfl) t .f64 (X k) (Y k) 0 0 r s hs
  have HM : Hid (∀ j t w, (binOp .mul t (.complex .f64 (X j) (Y j)) (.complex .f64 0 4607182418800017408)).run Try.prog w = .ok (.complex .f64 (X (j + 1)) (Y (j + 1))) w) := fun j t w => by
    have := (T j).2.2
    rw [hX j, hX (j + 1)] at this
    exact run_complex_mul (P := Try.prog) w t _ _ 0 4607182418800017408 _ _ this
  have HC : Hid (∀ w, Calls Try.prog 8 #[.complex .f64 x y] w fun e w' => e = .returned (.bool true) ∧ w = w') := fun w => giscell x y a b w hx hy ha hb
  have e0 := hX 0
  have ex : X 0 = x := (congrArg Prod.fst e0).symm
  have ey : Y 0 = y := (congrArg Prod.snd e0).symm
  clear T g1 g2 er es fr fs hs z0 hf hx hy hX e0 hk hq
  go_enter Try.func5, Try.ntmps5
  go_wp2_with (go_at_call 8; refine (HC.out _).mono ?_; rintro e w' ⟨rfl, rfl⟩)
  go_loop [0, 11] (fun vz vi => ∃ j : Nat, j ≤ k ∧ vi = .int .i64 (j : Int) ∧ vz = .complex .f64 (X j) (Y j)) (fun _ vi => k - (intOf vi).toNat)
  case atStart => exact ⟨0, by omega, rfl, by rw [ex, ey]⟩
  case round =>
    clear HC
    obtain ⟨j, hj, rfl, rfl⟩ := hrel
    by_cases hlt : j < k
    · have d1 : decide ((j : Int) < (k : Int)) = true := decide_eq_true (by omega)
      have d2 : decide (j < k) = true := decide_eq_true hlt
      have hm := HM.out j
      clear HM hop
      go_wp2_with (simp only [hm])
      exact ⟨⟨j + 1, by omega, by go_num, rfl⟩, by simp [intOf]; omega⟩
    · obtain rfl : j = k := by omega
      have d1 : decide ((j : Int) < (j : Int)) = false := decide_eq_false (by omega)
      clear HM
      go_wp2_with (simp only [hop])
      go_ret2
      exact ⟨rfl, rfl⟩
theorem rmade (u v : Int) (w : World) : Calls Try.prog 4 #[.int .i64 u, .int .i64 v] w fun e w' => e = .returned (.complex .f64 (floatOfInt .f64 u) (floatOfInt .f64 v)) ∧ w' = w := by
  go_enter Try.func4, Try.ntmps4
  go_wp2
  go_ret
  exact ⟨rfl, rfl⟩
end Go.Proofs.Ytbhidokfclchlaa
