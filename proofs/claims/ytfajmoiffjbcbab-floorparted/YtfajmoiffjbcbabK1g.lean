/-
  Cells: isPart, isCell; how far apart; what is in an aisle, what is near.
-/
import Derived.Test.YtfajmoiffjbcbabK1f
namespace Go.Proofs.Ytfajmoiffjbcbab
open Go.RowKit
theorem part_ok : oneOk (fun x _ => Ieee.double.order 13920626448202203136 x == some .lt && Ieee.double.order x 4697254411347427328 == some .lt) 12 = true := by decide +kernel
theorem fw_part {x : Nat} {a : Int} (hx : Fw x a) (ha : -12 ≤ a ∧ a ≤ 12) : FloatKind.f64.format.order 13920626448202203136 x = some .lt ∧ FloatKind.f64.format.order x 4697254411347427328 = some .lt := by
  have h := oneOk_use part_ok hx ha
  rw [Bool.and_eq_true] at h
  exact ⟨eq_of_beq h.1, eq_of_beq h.2⟩
set_option maxHeartbeats 400000 in
theorem papart (x y u v : Nat) (a b c d : Int) (w : World) (hx : Fw x a) (hy : Fw y b) (hu : Fw u c) (hv : Fw v d) (ha : -5 ≤ a ∧ a ≤ 5) (hb : -5 ≤ b ∧ b ≤ 5) (hc : -5 ≤ c ∧ c ≤ 5) (hd : -5 ≤ d ∧ d ≤ 5) :
    Calls Try.prog 16 #[.complex .f64 x y, .complex .f64 u v] w fun e w' => e = .returned (.int .i64 (((a - c).natAbs + (b - d).natAbs : Nat) : Int)) ∧ w = w' := by
  obtain ⟨p, q, hs, fp, fq⟩ := fw_cdiff hx hy hu hv (by omega) (by omega) (by omega) (by omega)
  have hop := fun t w => run_complex_sum (P := Try.prog) w .sub (Or.inr rfl) t .f64 x y u v p q hs
  clear hs
  go_enter Try.func16, Try.ntmps16
  go_wp2_with (first
    | (have _m := hr1; go_at_call 23; refine (pabs q (b - d) _ fq (by omega)).mono ?_; rintro e w' ⟨r2, rfl, hr2, rfl⟩; obtain ⟨s, hs, fs⟩ := fw_add hr1 hr2 (by omega) (by omega); have had := (fun t w => run_float_arith (P := Try.prog) w .add t .f64 r1 r2 s hs); have hcv := (fun w => run_convert_float_int (P := Try.prog) w 45 3 .f64 .i64 s _ (by rw [Try.underlying45]; rfl) Try.underlying3 (fw_int fs (by omega))))
    | (go_at_call 23; refine (pabs p (a - c) _ fp (by omega)).mono ?_; rintro e w' ⟨r1, rfl, hr1, rfl⟩)
    | fail)
  go_ret
  exact ⟨by rw [Int.natCast_add]; rfl, rfl⟩
end Go.Proofs.Ytfajmoiffjbcbab
