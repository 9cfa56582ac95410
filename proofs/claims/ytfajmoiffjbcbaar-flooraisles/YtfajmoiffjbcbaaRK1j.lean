/-
  The reference's Near.
-/
import Derived.Test.YtfajmoiffjbcbaaRK1h
import Derived.Test.YtfajmoiffjbcbaaRK1i
namespace Go.Proofs.YtfajmoiffjbcbaaR
open Go.RowKit
set_option maxHeartbeats 1000000 in
theorem rnear_ok (w : World) (n d : Nat) (rr : Int) (hn : n ≤ 64) (hd : d < n) (hr : 0 ≤ rr) :
    Calls Try.prog 9 #[.int .i64 (n : Int), .int .i64 (d : Int), .int .i64 rr] w fun e w' => e = .returned (.tuple #[.int .u64 ((gst (nearP d rr) n : Nat) : Int), .int .i64 0]) ∧ w = w' := by
  obtain ⟨P, HP⟩ : ∃ P : Nat → Bool, Hid (P = nearP d rr) := ⟨_, rfl⟩
  rw [← HP.out]
  have g0 : decide (rr < 0) = false := decide_eq_false (by omega)
  obtain ⟨R0, HR0⟩ : ∃ R : Nat, Hid (gst (fun i => decide ((spl i).x = (spl d).x)) n = R) := ⟨_, rfl⟩
  have HAi : Hid (∀ w, Calls Try.prog 7 #[.int .i64 (n : Int), .int .i64 (d : Int)] w fun e w' => e = .returned (.tuple #[.int .u64 (R0 : Int), .int .i64 0]) ∧ w = w') := fun w => by rw [← HR0.out]; exact raisle_ok w n d hn hd
  obtain ⟨X, HX⟩ : ∃ X, Hid ((spl d).x = X) := ⟨_, rfl⟩
  obtain ⟨Y, HY⟩ : ∃ Y, Hid ((spl d).y = Y) := ⟨_, rfl⟩
  have HD : Hid (∀ w, Calls Try.prog 21 #[.int .i64 (d : Int)] w fun e w' => e = .returned (.tuple #[.int .i64 X, .int .i64 Y]) ∧ w = w') := fun w => by rw [← HX.out, ← HY.out]; exact rcell d w (by omega)
  have f0 := spl_fit (k := d) (by omega)
  rw [HX.out, HY.out] at f0
  have x1 := f0.1
  have y1 := f0.2.1
  clear f0 HR0
  go_enter Try.func9, Try.ntmps9
  go_wp2_with (first
    | (go_at_call 21; refine (HD.out _).mono ?_; rintro e w1 ⟨rfl, rfl⟩)
    | (go_at_call 7; refine (HAi.out _).mono ?_; rintro e w1 ⟨rfl, rfl⟩))
  go_loop [10, 13] (fun vz vi => ∃ j z : Nat, j ≤ n ∧ Hid (gst P j = z) ∧ vi = .int .i64 (j : Int) ∧ vz = .int .u64 (z : Int)) (fun _ vi => n - (intOf vi).toNat)
  case atStart => exact ⟨0, 0, by omega, rfl, rfl, rfl⟩
  case round =>
    clear HD HAi
    obtain ⟨j, z, hj, HZ, rfl, rfl⟩ := hrel
    by_cases hlt : j < n
    · have d1 : decide ((j : Int) < (n : Int)) = true := decide_eq_true (by omega)
      obtain ⟨U, HU⟩ : ∃ U, Hid ((spl j).x = U) := ⟨_, rfl⟩
      obtain ⟨V, HV⟩ : ∃ V, Hid ((spl j).y = V) := ⟨_, rfl⟩
      have f1 := spl_fit (k := j) (by omega)
      rw [HU.out, HV.out] at f1
      have u1 := f1.1
      have v1 := f1.2.1
      have HJ : Hid (∀ w, Calls Try.prog 21 #[.int .i64 (j : Int)] w fun e w' => e = .returned (.tuple #[.int .i64 U, .int .i64 V]) ∧ w = w') := fun w => by rw [← HU.out, ← HV.out]; exact rcell j w (by omega)
      obtain ⟨p, hp⟩ : ∃ p, X - U = p := ⟨_, rfl⟩
      obtain ⟨q, hq⟩ : ∃ q, Y - V = q := ⟨_, rfl⟩
      obtain ⟨p', hp'⟩ : ∃ p' : Nat, p.natAbs = p' := ⟨_, rfl⟩
      obtain ⟨q', hq'⟩ : ∃ q' : Nat, q.natAbs = q' := ⟨_, rfl⟩
      have HPJ : Hid (P j = decide ((p' : Int) + (q' : Int) ≤ rr)) := by
        rw [HP.out]
        show decide _ = decide _
        rw [HU.out, HV.out, HX.out, HY.out]
        congr 1
        have : ((U - X).natAbs + (V - Y).natAbs : Nat) = p' + q' := by omega
        rw [this, Int.natCast_add]
      have wp : IntKind.i64.wrap (X - U) = p := by rw [IntKind.wrap_i64]; omega
      have wq : IntKind.i64.wrap (Y - V) = q := by rw [IntKind.wrap_i64]; omega
      have HSp : Hid (∀ w, Calls Try.prog 24 #[.int .i64 p] w fun e w' => e = .returned (.int .i64 (p' : Int)) ∧ w = w') := fun w => by rw [← hp']; exact rsize p w (by omega)
      have HSq : Hid (∀ w, Calls Try.prog 24 #[.int .i64 q] w fun e w' => e = .returned (.int .i64 (q' : Int)) ∧ w = w') := fun w => by rw [← hq']; exact rsize q w (by omega)
      have hp6 : p' ≤ 20 := by omega
      have hq6 : q' ≤ 20 := by omega
      clear f1 HU HV HX HY hp' hq'
      by_cases hr : (p' : Int) + (q' : Int) ≤ rr
      · have c1 : decide ((p' : Int) + (q' : Int) ≤ rr) = true := decide_eq_true hr
        obtain ⟨T, hT⟩ : ∃ T, 2 ^ j = T := ⟨_, rfl⟩
        obtain ⟨z', HZ'⟩ : ∃ z' : Nat, Hid (gst P (j + 1) = z') := ⟨_, rfl⟩
        have hp2 : IntKind.u64.wrap (2 ^ j) = (T : Int) := by rw [← hT]; exact j_pow j (by omega)
        have hor : bits .or .u64 (z : Int) (T : Int) = (z' : Int) := gst_or (by omega) (by rw [HPJ.out, c1]) HZ.out HZ'.out hT
        clear hT HPJ HZ
        go_wp2_with (first
          | (go_at_call 21; refine (HJ.out _).mono ?_; rintro e w1 ⟨rfl, rfl⟩)
          | (have _m := m1; go_at_call 24; refine (HSq.out _).mono ?_; rintro e w1 ⟨rfl, rfl⟩)
          | (go_at_call 24; refine (HSp.out _).mono ?_; rintro e w1 ⟨rfl, rfl⟩; have m1 : True := trivial))
        exact ⟨⟨j + 1, z', by omega, HZ', by go_num, rfl⟩, by simp [intOf]; omega⟩
      · have c1 : decide ((p' : Int) + (q' : Int) ≤ rr) = false := decide_eq_false hr
        have HZ' : Hid (gst P (j + 1) = z) := by rw [← HZ.out]; exact (gst_out (by rw [HPJ.out, c1])).symm
        clear HPJ HZ
        go_wp2_with (first
          | (go_at_call 21; refine (HJ.out _).mono ?_; rintro e w1 ⟨rfl, rfl⟩)
          | (have _m := m1; go_at_call 24; refine (HSq.out _).mono ?_; rintro e w1 ⟨rfl, rfl⟩)
          | (go_at_call 24; refine (HSp.out _).mono ?_; rintro e w1 ⟨rfl, rfl⟩; have m1 : True := trivial))
        exact ⟨⟨j + 1, z, by omega, HZ', by go_num, rfl⟩, by simp [intOf]; omega⟩
    · obtain rfl : j = n := by omega
      have d1 : decide ((j : Int) < (j : Int)) = false := decide_eq_false (by omega)
      clear HX HY
      go_wp2
      go_ret2
      exact ⟨by rw [HZ.out]; rfl, rfl⟩
set_option maxHeartbeats 400000 in
theorem rnear_bad (w : World) (n d rr : Int) (h : (¬ (1 ≤ n ∧ n ≤ 64) ∨ d < 0 ∨ n ≤ d) ∨ rr < 0) :
    Calls Try.prog 9 #[.int .i64 n, .int .i64 d, .int .i64 rr] w fun e w' => e = .returned (.tuple #[.int .u64 0, .int .i64 2]) ∧ w = w' := by
  by_cases hb : ¬ (1 ≤ n ∧ n ≤ 64) ∨ d < 0 ∨ n ≤ d
  · go_enter Try.func9, Try.ntmps9
    go_wp2_with (go_at_call 7; refine (raisle_bad _ n d hb).mono ?_; rintro e w1 ⟨rfl, rfl⟩)
    go_ret2
    exact ⟨rfl, rfl⟩
  · have g0 : decide (rr < 0) = true := decide_eq_true (by omega)
    obtain ⟨N, rfl⟩ := Int.eq_ofNat_of_zero_le (show 0 ≤ n by omega)
    obtain ⟨D, rfl⟩ := Int.eq_ofNat_of_zero_le (show 0 ≤ d by omega)
    obtain ⟨R0, HR0⟩ : ∃ R : Nat, Hid (gst (fun i => decide ((spl i).x = (spl D).x)) N = R) := ⟨_, rfl⟩
    have HAi : Hid (∀ w, Calls Try.prog 7 #[.int .i64 (N : Int), .int .i64 (D : Int)] w fun e w' => e = .returned (.tuple #[.int .u64 (R0 : Int), .int .i64 0]) ∧ w = w') := fun w => by rw [← HR0.out]; exact raisle_ok w N D (by omega) (by omega)
    clear HR0
    go_enter Try.func9, Try.ntmps9
    go_wp2_with (go_at_call 7; refine (HAi.out _).mono ?_; rintro e w1 ⟨rfl, rfl⟩)
    go_ret2
    exact ⟨rfl, rfl⟩
end Go.Proofs.YtfajmoiffjbcbaaR
