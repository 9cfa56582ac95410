/-
  Contracts of the reference's times, Pow, Exp, Log, Inv, Div.
-/
import Derived.Test.YthdgpmanijifoaaQbbst00
import Derived.Test.YthdgpmanijifoaaQbbst06
set_option maxRecDepth 100000
set_option maxHeartbeats 16000000
namespace Go.Proofs.Ythdgpmanijifoaa
open Go.RowKit
theorem rinv_any (a : Nat) (w : World) (ha : a < 256) : Calls Try.prog 25 #[.int .u8 (a : Int)] w fun e w' => e = .returned (.tuple #[.int .u8 (finv a : Nat), .int .i64 (ive a)]) ∧ w' = w := by
 go_enter Try.func25, Try.ntmps25
 go_wp2
 go_loop [4] (fun i => ∃ k : Nat, 1 ≤ k ∧ k ≤ 256 ∧ i = .int .i64 (k : Int) ∧ Hid (∀ j, j < k → fm a j ≠ 1)) (fun i => 256 - (intOf i).toNat)
 case atStart => exact ⟨1, by omega, by omega, rfl, fun j hj => by rw [show j = 0 by omega, fm_zero]; decide⟩
 case round =>
  obtain ⟨k, hk1, hk, rfl, HJ⟩ := hrel
  by_cases hlt : k < 256
  ·by_cases he : fm a k = 1
   ·have HE : Hid (fm a k = 1) := he
    have t : (((fm a k : Nat) : Int) == 1) = true := by simp [he]
    clear he
    go_wp2_with (go_at_call 26; refine (qav _ _ _ ha hlt).mono ?_; rintro e w' ⟨rfl, rfl⟩)
    go_ret2
    have e := qc7 a k ha hlt HE.out
    exact ⟨ret_two (by rw [← e.2]) (by simp [ive, e.1]), rfl⟩
   ·have t : (((fm a k : Nat) : Int) == 1) = false := by simp; omega
    have HJ2 : Hid (∀ j, j < k + 1 → fm a j ≠ 1) := by
     intro j hj
     by_cases ej : j = k
     ·subst ej; exact he
     ·exact HJ.out j (by omega)
    clear he
    go_wp2_with (go_at_call 26; refine (qav _ _ _ ha hlt).mono ?_; rintro e w' ⟨rfl, rfl⟩)
    exact ⟨⟨k + 1, by omega, by omega, by go_num, HJ2⟩, by simp [intOf]; omega⟩
  ·have h0 : a = 0 := by
    by_cases h : a = 0
    ·exact h
    ·exact absurd (qbb a ha h) (HJ.out _ (by have := qac a; omega))
   subst h0
   go_wp2
   go_ret2
   exact ⟨rfl, rfl⟩
end Go.Proofs.Ythdgpmanijifoaa
