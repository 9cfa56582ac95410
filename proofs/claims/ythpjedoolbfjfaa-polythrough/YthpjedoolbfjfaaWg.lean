/-
  Contracts of the reference's times, Pow, Exp, Log, Inv, Div.
-/
import Derived.Test.YthpjedoolbfjfaaWf
namespace Go.Proofs.Ythpjedoolbfjfaa
open Go.RowKit
theorem pwv_times (a : Nat) (n : Int) (ha : a < 256) (h0 : a ≠ 0) : pwv a n = fpow a (inb n).toNat := by
  unfold pwv
  by_cases h : n = 0
  · subst h; rfl
  · rw [if_neg h, if_neg h0, g_mod, fpow_lg a _ ha h0]
theorem pwv_two (n : Int) : pwv 2 n = g (inb n).toNat := by
  rw [pwv_times 2 n (by decide) (by decide), fpow_lg 2 _ (by decide) (by decide), show lg 2 = 1 from by kernel_rfl, Nat.one_mul]
/-- What Log answers as its error. -/
def lge (a : Nat) : Int := if a = 0 then 5 else 0
theorem dbl_is (a : Nat) (h : a < 256) : fm a 2 = dbl a := by
  have := fm_dbl_r a 1 h (by decide)
  rw [fm_one a h] at this
  exact this
set_option maxRecDepth 20000 in
set_option maxHeartbeats 400000 in
theorem rinv_any (a : Nat) (w : World) (ha : a < 256) : Calls Try.prog 41 #[.int .u8 (a : Int)] w fun e w' => e = .returned (.tuple #[.int .u8 (finv a : Nat), .int .i64 (ive a)]) ∧ w' = w := by
  go_enter Try.func41, Try.ntmps41
  go_wp2
  go_loop [4] (fun i => ∃ k : Nat, 1 ≤ k ∧ k ≤ 256 ∧ i = .int .i64 (k : Int) ∧ Hid (∀ j, j < k → fm a j ≠ 1)) (fun i => 256 - (intOf i).toNat)
  case atStart => exact ⟨1, by omega, by omega, rfl, fun j hj => by rw [show j = 0 by omega, fm_zero]; decide⟩
  case round =>
    obtain ⟨k, hk1, hk, rfl, HJ⟩ := hrel
    by_cases hlt : k < 256
    · by_cases he : fm a k = 1
      · have HE : Hid (fm a k = 1) := he
        have t : (((fm a k : Nat) : Int) == 1) = true := by simp [he]
        clear he
        go_wp2_with (go_at_call 35; refine (rmul_nat _ _ _ ha hlt).mono ?_; rintro e w' ⟨rfl, rfl⟩)
        go_ret2
        have e := inv_unique a k ha hlt HE.out
        exact ⟨ret_two (by rw [← e.2]) (by simp [ive, e.1]), rfl⟩
      · have t : (((fm a k : Nat) : Int) == 1) = false := by simp; omega
        have HJ2 : Hid (∀ j, j < k + 1 → fm a j ≠ 1) := by
          intro j hj
          by_cases ej : j = k
          · subst ej; exact he
          · exact HJ.out j (by omega)
        clear he
        go_wp2_with (go_at_call 35; refine (rmul_nat _ _ _ ha hlt).mono ?_; rintro e w' ⟨rfl, rfl⟩)
        exact ⟨⟨k + 1, by omega, by omega, by go_num, HJ2⟩, by simp [intOf]; omega⟩
    · have h0 : a = 0 := by
        by_cases h : a = 0
        · exact h
        · exact absurd (fm_finv a ha h) (HJ.out _ (by have := finv_lt a; omega))
      subst h0
      go_wp2
      go_ret2
      exact ⟨rfl, rfl⟩
end Go.Proofs.Ythpjedoolbfjfaa
