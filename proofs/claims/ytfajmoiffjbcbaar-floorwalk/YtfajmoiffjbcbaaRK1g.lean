/-
  Cells: isPart, isCell; how far apart; what is in an aisle, what is near.
-/
import Derived.Test.YtfajmoiffjbcbaaRK1f
namespace Go.Proofs.YtfajmoiffjbcbaaR
open Go.RowKit
theorem part_ok : oneOk (fun x _ => Ieee.double.order 13920626448202203136 x == some .lt && Ieee.double.order x 4697254411347427328 == some .lt) 12 = true := by decide +kernel
theorem fw_part {x : Nat} {a : Int} (hx : Fw x a) (ha : -12 ≤ a ∧ a ≤ 12) : FloatKind.f64.format.order 13920626448202203136 x = some .lt ∧ FloatKind.f64.format.order x 4697254411347427328 = some .lt := by
  have h := oneOk_use part_ok hx ha
  rw [Bool.and_eq_true] at h
  exact ⟨eq_of_beq h.1, eq_of_beq h.2⟩
set_option maxHeartbeats 400000 in
theorem pispart (x : Nat) (a : Int) (w : World) (hx : Fw x a) (ha : -12 ≤ a ∧ a ≤ 12) :
    Calls Try.prog 32 #[.float .f64 x] w fun e w' => e = .returned (.bool true) ∧ w = w' := by
  obtain ⟨h1, h2⟩ := fw_part hx ha
  go_enter Try.func32, Try.ntmps32
  go_wp2_with (go_at_call 35; refine (ptrunc x a _ hx ha).mono ?_; rintro e w' ⟨r, rfl, hr, rfl⟩; have h3 : FloatKind.f64.format.order x r = some .eq := (by rw [fw_order hx hr ha ha]; simp))
  go_ret
  exact ⟨rfl, rfl⟩
set_option maxHeartbeats 400000 in
theorem piscell (x y : Nat) (a b : Int) (w : World) (hx : Fw x a) (hy : Fw y b) (ha : -12 ≤ a ∧ a ≤ 12) (hb : -12 ≤ b ∧ b ≤ 12) :
    Calls Try.prog 29 #[.complex .f64 x y] w fun e w' => e = .returned (.bool true) ∧ w = w' := by
  go_enter Try.func29, Try.ntmps29
  go_wp2_with (first
    | (have _m := m1; go_at_call 32; refine (pispart y b _ hy hb).mono ?_; rintro e w' ⟨rfl, rfl⟩)
    | (go_at_call 32; refine (pispart x a _ hx ha).mono ?_; rintro e w' ⟨rfl, rfl⟩; have m1 : True := trivial))
  go_ret
  exact ⟨rfl, rfl⟩
set_option maxHeartbeats 400000 in
theorem papart (x y u v : Nat) (a b c d : Int) (w : World) (hx : Fw x a) (hy : Fw y b) (hu : Fw u c) (hv : Fw v d) (ha : -5 ≤ a ∧ a ≤ 5) (hb : -5 ≤ b ∧ b ≤ 5) (hc : -5 ≤ c ∧ c ≤ 5) (hd : -5 ≤ d ∧ d ≤ 5) :
    Calls Try.prog 23 #[.complex .f64 x y, .complex .f64 u v] w fun e w' => e = .returned (.int .i64 (((a - c).natAbs + (b - d).natAbs : Nat) : Int)) ∧ w = w' := by
  obtain ⟨p, q, hs, fp, fq⟩ := fw_cdiff hx hy hu hv (by omega) (by omega) (by omega) (by omega)
  have hop := fun t w => run_complex_sum (P := Try.prog) w .sub (Or.inr rfl) t .f64 x y u v p q hs
  clear hs
  go_enter Try.func23, Try.ntmps23
  go_wp2_with (first
    | (have _m := hr1; go_at_call 30; refine (pabs q (b - d) _ fq (by omega)).mono ?_; rintro e w' ⟨r2, rfl, hr2, rfl⟩; obtain ⟨s, hs, fs⟩ := fw_add hr1 hr2 (by omega) (by omega); have had := (fun t w => run_float_arith (P := Try.prog) w .add t .f64 r1 r2 s hs); have hcv := (fun w => run_convert_float_int (P := Try.prog) w 55 3 .f64 .i64 s _ (by rw [Try.underlying55]; rfl) Try.underlying3 (fw_int fs (by omega))))
    | (go_at_call 30; refine (pabs p (a - c) _ fp (by omega)).mono ?_; rintro e w' ⟨r1, rfl, hr1, rfl⟩)
    | fail)
  go_ret
  exact ⟨by rw [Int.natCast_add]; rfl, rfl⟩
set_option maxHeartbeats 400000 in
theorem papart2 (x y u v : Nat) (a b c d : Int) (w : World) (hx : Fw x a) (hy : Fw y b) (hu : Fw u c) (hv : Fw v d) (ha : -5 ≤ a ∧ a ≤ 5) (hb : -5 ≤ b ∧ b ≤ 5) (hc : -5 ≤ c ∧ c ≤ 5) (hd : -5 ≤ d ∧ d ≤ 5) :
    Calls Try.prog 18 #[.complex .f64 x y, .complex .f64 u v] w fun e w' => e = .returned (.tuple #[.int .i64 (((a - c).natAbs + (b - d).natAbs : Nat) : Int), .int .i64 0]) ∧ w = w' := by
  obtain ⟨N, HN⟩ : ∃ N : Nat, Hid ((a - c).natAbs + (b - d).natAbs = N) := ⟨_, rfl⟩
  rw [HN.out]
  go_enter Try.func18, Try.ntmps18
  go_wp2_with (first
    | (have _m := m1; go_at_call 29; refine (piscell u v c d _ hu hv (by omega) (by omega)).mono ?_; rintro e w' ⟨rfl, rfl⟩)
    | (go_at_call 29; refine (piscell x y a b _ hx hy (by omega) (by omega)).mono ?_; rintro e w' ⟨rfl, rfl⟩; have m1 : True := trivial)
    | (go_at_call 23; refine (papart x y u v a b c d _ hx hy hu hv ha hb hc hd).mono ?_; rintro e w' ⟨rfl, rfl⟩; rw [HN.out]))
  go_ret2
  exact ⟨rfl, rfl⟩
end Go.Proofs.YtfajmoiffjbcbaaR
