/-
  The reference: Cell, size, Aisle, Near.
-/
import Derived.Test.YtfajmoiffjbcbaaRK1b
namespace Go.Proofs.YtfajmoiffjbcbaaR
open Go.RowKit
theorem spl_last' {k : Nat} (h : (spl k).lf = 1) : spl (k + 1) = ⟨(spl k).x + (spl k).dx, (spl k).y + (spl k).dy, -(spl k).dy, (spl k).dx, (spl k).sd + 1, ((spl k).sd + 1) / 2 + 1⟩ := by
  show (spl k).go = _
  unfold Stp.go
  rw [if_pos h]
theorem spl_more' {k : Nat} (h : (spl k).lf ≠ 1) : spl (k + 1) = ⟨(spl k).x + (spl k).dx, (spl k).y + (spl k).dy, (spl k).dx, (spl k).dy, (spl k).sd, (spl k).lf - 1⟩ := by
  show (spl k).go = _
  unfold Stp.go
  rw [if_neg h]
/-- On the way along a side. -/
def OnS (A B : Int) (L k i : Nat) : Prop :=
  (i ≤ L / 2 ∧ (spl k).dx = A ∧ (spl k).dy = B ∧ (spl k).sd = L ∧ (spl k).lf + i = L / 2 + 1) ∨
  (i = L / 2 + 1 ∧ (spl k).dx = -B ∧ (spl k).dy = A ∧ (spl k).sd = L + 1 ∧ (spl k).lf = (L + 1) / 2 + 1)
theorem OnS.step {A B : Int} {L k i : Nat} (h : OnS A B L k i) (hi : i ≤ L / 2) : OnS A B L (k + 1) (i + 1) ∧ (spl (k + 1)).x = (spl k).x + A ∧ (spl (k + 1)).y = (spl k).y + B := by
  rcases h with ⟨_, h1, h2, h3, h4⟩ | ⟨h0, _⟩
  · by_cases e : (spl k).lf = 1
    · rw [OnS, spl_last' e]
      exact ⟨Or.inr ⟨by omega, by rw [h2], h1, by rw [h3], by rw [h3]⟩, by rw [h1], by rw [h2]⟩
    · rw [OnS, spl_more' e]
      exact ⟨Or.inl ⟨by omega, h1, h2, h3, by show (spl k).lf - 1 + (i + 1) = _; omega⟩, by rw [h1], by rw [h2]⟩
  · omega
set_option maxHeartbeats 1000000 in
theorem rcell (d : Nat) (w : World) (hd : d ≤ 64) :
    Calls Try.prog 21 #[.int .i64 (d : Int)] w fun e w' => e = .returned (.tuple #[.int .i64 (spl d).x, .int .i64 (spl d).y]) ∧ w = w' := by
  go_enter Try.func21, Try.ntmps21
  go_wp2
  go_loop [0, 4, 5, 6, 7, 8] (fun vd vx vy vp vq vl => ∃ r k : Nat, r + k = d ∧ vd = .int .i64 (r : Int) ∧ vx = .int .i64 (spl k).x ∧ vy = .int .i64 (spl k).y ∧ (r = 0 ∨ (vp = .int .i64 (spl k).dx ∧ vq = .int .i64 (spl k).dy ∧ vl = .int .i64 ((spl k).sd : Int) ∧ (spl k).lf = (spl k).sd / 2 + 1))) (fun vd _ _ _ _ _ => (intOf vd).toNat)
  case atStart => exact ⟨d, 0, by omega, rfl, rfl, rfl, Or.inr ⟨rfl, rfl, rfl, rfl⟩⟩
  case round =>
    obtain ⟨r0, k0, hr, rfl, rfl, rfl, hcase⟩ := hrel
    by_cases h0 : r0 = 0
    · subst h0
      obtain rfl : k0 = d := by omega
      clear hcase
      go_wp2
      go_ret2
      exact ⟨rfl, rfl⟩
    · obtain ⟨rfl, rfl, rfl, hl⟩ := hcase.resolve_left h0
      have q1 : decide ((0 : Int) < (r0 : Int)) = true := decide_eq_true (by omega)
      have q2 : decide (0 < r0) = true := decide_eq_true (by omega)
      obtain ⟨A, HA⟩ : ∃ A, Hid ((spl k0).dx = A) := ⟨_, rfl⟩
      obtain ⟨B, HB⟩ : ∃ B, Hid ((spl k0).dy = B) := ⟨_, rfl⟩
      obtain ⟨L, HL⟩ : ∃ L, Hid ((spl k0).sd = L) := ⟨_, rfl⟩
      obtain ⟨X0, HX0⟩ : ∃ A, Hid ((spl k0).x = A) := ⟨_, rfl⟩
      obtain ⟨Y0, HY0⟩ : ∃ A, Hid ((spl k0).y = A) := ⟨_, rfl⟩
      have HO : Hid (OnS A B L k0 0) := Or.inl ⟨by omega, HA.out, HB.out, HL.out, by rw [hl, HL.out]⟩
      have f0 := spl_fit (k := k0) (by omega)
      rw [HA.out, HB.out, HL.out] at f0
      have a1 := f0.2.2.1
      have b1 := f0.2.2.2.1
      have l1 := f0.2.2.2.2.1
      rw [HA.out, HB.out, HL.out, HX0.out, HY0.out]
      clear f0 hl hcase HA HB HL
      go_wp2
      go_loop [0, 4, 5, 9] (fun vd vx vy vi => ∃ r k i : Nat, r + k = d ∧ r + i = r0 ∧ vd = .int .i64 (r : Int) ∧ vx = .int .i64 (spl k).x ∧ vy = .int .i64 (spl k).y ∧ vi = .int .i64 (i : Int) ∧ Hid (OnS A B L k i)) (fun vd _ _ _ => (intOf vd).toNat)
      case atStart => exact ⟨r0, k0, 0, hr, rfl, rfl, by rw [HX0.out], by rw [HY0.out], rfl, HO⟩
      case round =>
        clear HX0 HY0 HO
        obtain ⟨r, k, i, e1, e2, rfl, rfl, rfl, rfl, HS⟩ := hrel
        obtain ⟨X, HX⟩ : ∃ A, Hid ((spl k).x = A) := ⟨_, rfl⟩
        obtain ⟨Y, HY⟩ : ∃ A, Hid ((spl k).y = A) := ⟨_, rfl⟩
        have f1 := spl_fit (k := k) (by omega)
        rw [HX.out, HY.out] at f1
        have x1 := f1.1
        have y1 := f1.2.1
        clear f1
        by_cases hi : i ≤ L / 2
        · have c1 : decide ((i : Int) ≤ (L : Int) / 2) = true := decide_eq_true (by omega)
          by_cases hr0 : r = 0
          · subst hr0
            have c2 : decide ((0 : Int) < ((0 : Nat) : Int)) = false := by decide
            have wb : IntKind.i64.wrap (-B) = -B := by rw [IntKind.wrap_i64]; omega
            have HE : Hid (X = (spl d).x ∧ Y = (spl d).y) := by
              obtain rfl : k = d := by omega
              exact ⟨HX.out.symm, HY.out.symm⟩
            rw [HX.out, HY.out]
            clear HX HY HS
            go_wp2
            exact ⟨⟨0, d, by omega, rfl, by rw [HE.out.1], by rw [HE.out.2], Or.inl rfl⟩, by simp [intOf]; omega⟩
          · obtain ⟨s, rfl⟩ : ∃ s, r = s + 1 := ⟨r - 1, by omega⟩
            have c2 : decide ((0 : Int) < (s : Int) + 1) = true := decide_eq_true (by omega)
            have c3 : decide ((0 : Int) < ((s + 1 : Nat) : Int)) = true := decide_eq_true (by omega)
            have HT : Hid (OnS A B L (k + 1) (i + 1) ∧ X + A = (spl (k + 1)).x ∧ Y + B = (spl (k + 1)).y) := by
              obtain ⟨t1, t2, t3⟩ := HS.out.step hi
              exact ⟨t1, by rw [t2, HX.out], by rw [t3, HY.out]⟩
            have wx : IntKind.i64.wrap (X + A) = X + A := by rw [IntKind.wrap_i64]; omega
            have wy : IntKind.i64.wrap (Y + B) = Y + B := by rw [IntKind.wrap_i64]; omega
            rw [HX.out, HY.out]
            clear HX HY HS
            go_wp2
            exact ⟨⟨s, k + 1, i + 1, by omega, by omega, by go_num, by rw [HT.out.2.1], by rw [HT.out.2.2], by go_num, HT.out.1⟩, by simp [intOf]⟩
        · have c1 : decide ((i : Int) ≤ (L : Int) / 2) = false := decide_eq_false (by omega)
          have HV : Hid (Value.int .i64 (-B) = .int .i64 (spl k).dx ∧ Value.int .i64 A = .int .i64 (spl k).dy ∧ Value.int .i64 ((L : Int) + 1) = .int .i64 ((spl k).sd : Int) ∧ (spl k).lf = (spl k).sd / 2 + 1) := by
            rcases HS.out with ⟨hh, _⟩ | ⟨_, h1, h2, h3, h4⟩
            · omega
            · exact ⟨by rw [h1], by rw [h2], by rw [h3]; rfl, by rw [h3, h4]⟩
          have hlt : r < r0 := by omega
          have wb : IntKind.i64.wrap (-B) = -B := by rw [IntKind.wrap_i64]; omega
          rw [HX.out, HY.out]
          clear HS
          go_wp2
          exact ⟨⟨r, k, e1, rfl, by rw [HX.out], by rw [HY.out], Or.inr HV.out⟩, by simp [intOf]; omega⟩
theorem rsize (n : Int) (w : World) (h : -1000 ≤ n ∧ n ≤ 1000) :
    Calls Try.prog 24 #[.int .i64 n] w fun e w' => e = .returned (.int .i64 (n.natAbs : Int)) ∧ w = w' := by
  by_cases h0 : n < 0
  · have g0 : decide (n < 0) = true := decide_eq_true h0
    have wn : IntKind.i64.wrap (-n) = -n := by rw [IntKind.wrap_i64]; omega
    have e : (n.natAbs : Int) = -n := by omega
    rw [e]
    go_enter Try.func24, Try.ntmps24
    go_wp2
    go_ret
    exact ⟨rfl, rfl⟩
  · have g0 : decide (n < 0) = false := decide_eq_false h0
    have e : (n.natAbs : Int) = n := by omega
    rw [e]
    go_enter Try.func24, Try.ntmps24
    go_wp2
    go_ret
    exact ⟨rfl, rfl⟩
set_option maxHeartbeats 1000000 in
theorem raisle_ok (w : World) (n d : Nat) (hn : n ≤ 64) (hd : d < n) :
    Calls Try.prog 7 #[.int .i64 (n : Int), .int .i64 (d : Int)] w fun e w' => e = .returned (.tuple #[.int .u64 ((gst (fun i => decide ((spl i).x = (spl d).x)) n : Nat) : Int), .int .i64 0]) ∧ w = w' := by
  obtain ⟨P, HP⟩ : ∃ P : Nat → Bool, Hid (P = fun i => decide ((spl i).x = (spl d).x)) := ⟨_, rfl⟩
  rw [← HP.out]
  have g0 : decide ((n : Int) < 1) = false := decide_eq_false (by omega)
  have g1 : decide ((64 : Int) < (n : Int)) = false := decide_eq_false (by omega)
  have g2 : decide ((d : Int) < 0) = false := decide_eq_false (by omega)
  have g3 : decide ((n : Int) ≤ (d : Int)) = false := decide_eq_false (by omega)
  have g4 : decide (n ≤ d) = false := decide_eq_false (by omega)
  obtain ⟨X, HX⟩ : ∃ X, Hid ((spl d).x = X) := ⟨_, rfl⟩
  obtain ⟨Y, HY⟩ : ∃ Y, Hid ((spl d).y = Y) := ⟨_, rfl⟩
  have HD : Hid (∀ w, Calls Try.prog 21 #[.int .i64 (d : Int)] w fun e w' => e = .returned (.tuple #[.int .i64 X, .int .i64 Y]) ∧ w = w') := fun w => by rw [← HX.out, ← HY.out]; exact rcell d w (by omega)
  go_enter Try.func7, Try.ntmps7
  go_wp2_with (go_at_call 21; refine (HD.out _).mono ?_; rintro e w1 ⟨rfl, rfl⟩)
  go_loop [6, 9] (fun vz vi => ∃ j z : Nat, j ≤ n ∧ Hid (gst P j = z) ∧ vi = .int .i64 (j : Int) ∧ vz = .int .u64 (z : Int)) (fun _ vi => n - (intOf vi).toNat)
  case atStart => exact ⟨0, 0, by omega, rfl, rfl, rfl⟩
  case round =>
    clear HD
    obtain ⟨j, z, hj, HZ, rfl, rfl⟩ := hrel
    by_cases hlt : j < n
    · have d1 : decide ((j : Int) < (n : Int)) = true := decide_eq_true (by omega)
      obtain ⟨U, HU⟩ : ∃ U, Hid ((spl j).x = U) := ⟨_, rfl⟩
      obtain ⟨V, HV⟩ : ∃ V, Hid ((spl j).y = V) := ⟨_, rfl⟩
      have HJ : Hid (∀ w, Calls Try.prog 21 #[.int .i64 (j : Int)] w fun e w' => e = .returned (.tuple #[.int .i64 U, .int .i64 V]) ∧ w = w') := fun w => by rw [← HU.out, ← HV.out]; exact rcell j w (by omega)
      have HPJ : Hid (P j = decide (U = X)) := by rw [HP.out, ← HU.out, ← HX.out]; rfl
      by_cases hr : U = X
      · have c1 : decide (U = X) = true := decide_eq_true hr
        obtain ⟨T, hT⟩ : ∃ T, 2 ^ j = T := ⟨_, rfl⟩
        obtain ⟨z', HZ'⟩ : ∃ z' : Nat, Hid (gst P (j + 1) = z') := ⟨_, rfl⟩
        have hp2 : IntKind.u64.wrap (2 ^ j) = (T : Int) := by rw [← hT]; exact j_pow j (by omega)
        have hor : bits .or .u64 (z : Int) (T : Int) = (z' : Int) := gst_or (by omega) (by rw [HPJ.out, c1]) HZ.out HZ'.out hT
        clear hT HPJ HZ HU HV HX HY
        go_wp2_with (go_at_call 21; refine (HJ.out _).mono ?_; rintro e w1 ⟨rfl, rfl⟩)
        exact ⟨⟨j + 1, z', by omega, HZ', by go_num, rfl⟩, by simp [intOf]; omega⟩
      · have c1 : decide (U = X) = false := decide_eq_false hr
        have HZ' : Hid (gst P (j + 1) = z) := by rw [← HZ.out]; exact (gst_out (by rw [HPJ.out, c1])).symm
        clear HPJ HZ HU HV HX HY
        go_wp2_with (go_at_call 21; refine (HJ.out _).mono ?_; rintro e w1 ⟨rfl, rfl⟩)
        exact ⟨⟨j + 1, z, by omega, HZ', by go_num, rfl⟩, by simp [intOf]; omega⟩
    · obtain rfl : j = n := by omega
      have d1 : decide ((j : Int) < (j : Int)) = false := decide_eq_false (by omega)
      go_wp2
      go_ret2
      exact ⟨by rw [HZ.out]; rfl, rfl⟩
set_option maxHeartbeats 400000 in
theorem raisle_bad (w : World) (n d : Int) (h : ¬ (1 ≤ n ∧ n ≤ 64) ∨ d < 0 ∨ n ≤ d) :
    Calls Try.prog 7 #[.int .i64 n, .int .i64 d] w fun e w' => e = .returned (.tuple #[.int .u64 0, .int .i64 2]) ∧ w = w' := by
  by_cases h1 : n < 1
  · have g0 : decide (n < 1) = true := decide_eq_true h1
    go_enter Try.func7, Try.ntmps7
    go_wp2
    go_ret2
    exact ⟨rfl, rfl⟩
  · have g0 : decide (n < 1) = false := decide_eq_false h1
    by_cases h2 : 64 < n
    · have g1 : decide ((64 : Int) < n) = true := decide_eq_true h2
      go_enter Try.func7, Try.ntmps7
      go_wp2
      go_ret2
      exact ⟨rfl, rfl⟩
    · have g1 : decide ((64 : Int) < n) = false := decide_eq_false h2
      by_cases h3 : d < 0
      · have g2 : decide (d < 0) = true := decide_eq_true h3
        go_enter Try.func7, Try.ntmps7
        go_wp2
        go_ret2
        exact ⟨rfl, rfl⟩
      · have g2 : decide (d < 0) = false := decide_eq_false h3
        have g3 : decide (n ≤ d) = true := decide_eq_true (by omega)
        go_enter Try.func7, Try.ntmps7
        go_wp2
        go_ret2
        exact ⟨rfl, rfl⟩
end Go.Proofs.YtfajmoiffjbcbaaR
