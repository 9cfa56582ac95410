/-
  Contracts of Pow (all of it), Exp, Log, Inv, Div.
-/
import Derived.Test.YthdgpmanijifoaaQbbst00
import Derived.Test.YthdgpmanijifoaaQbbst05
set_option maxRecDepth 100000
set_option maxHeartbeats 16000000
namespace Go.Proofs.Ythdgpmanijifoaa
open Go.RowKit
/-- What Pow answers: the power, and the error. -/
def pwv (a : Nat) (n : Int) : Nat := if n = 0 then 1 else if a = 0 then 0 else g (lg a * (inb n).toNat % 255)
def pwe (a : Nat) (n : Int) : Int := if a = 0 ∧ n < 0 then 5 else 0
theorem ret_two {k : IntKind} {a b : Int} {c d : Int} (h : a = b) (h2 : c = d) : Ending.returned (.tuple #[.int k a, .int .i64 c]) = .returned (.tuple #[.int k b, .int .i64 d]) := by rw [h, h2]
theorem pow_any (a : Nat) (n : Int) (w : World) (ha : a < 256) (hn : I64 n) :
  Calls Try.prog 50 #[.int .u8 (a : Int), .int .i64 n] w fun e w' => e = .returned (.tuple #[.int .u8 (pwv a n : Nat), .int .i64 (pwe a n)]) ∧ Below w.heap.size w w' := by
 by_cases h0 : n = 0
 ·have e1 : pwv a n = 1 := by simp [pwv, h0]
  have e2 : pwe a n = 0 := by simp [pwe, h0]
  rw [e1, e2]
  subst h0
  clear e1 e2
  go_enter Try.func50, Try.ntmps50
  go_wp2
  go_ret2
  exact ⟨rfl, Below.refl _ _⟩
 by_cases h1 : a = 0
 ·subst h1
  have t1 : (n == 0) = false := by simpa using h0
  by_cases h2 : n < 0
  ·have e1 : pwv 0 n = 0 := by simp [pwv, h0]
   have e2 : pwe 0 n = 5 := by simp [pwe, h2]
   rw [e1, e2]
   clear e1 e2 h0
   go_enter Try.func50, Try.ntmps50
   go_wp2
   go_ret2
   exact ⟨rfl, Below.refl _ _⟩
  ·have e1 : pwv 0 n = 0 := by simp [pwv, h0]
   have e2 : pwe 0 n = 0 := by simp [pwe, h2]
   rw [e1, e2]
   clear e1 e2 h0
   go_enter Try.func50, Try.ntmps50
   go_wp2
   go_ret2
   exact ⟨rfl, Below.refl _ _⟩
 ·have e1 : pwv a n = g (lg a * (inb n).toNat % 255) := by simp [pwv, h0, h1]
  have e2 : pwe a n = 0 := by simp [pwe, h1]
  rw [e1, e2]
  exact pow_main a n w ha h1 hn h0
/-- What Inv answers. -/
def ive (a : Nat) : Int := if a = 0 then 5 else 0
theorem pwv_inv (a : Nat) (ha : a < 256) : pwv a (-1) = finv a := by
 unfold pwv finv
 rw [if_neg (by decide)]
 by_cases h : a = 0
 ·simp [h]
 ·rw [if_neg h, if_neg h, g_mod, show (inb (-1)).toNat = 254 from rfl]
  have h1 := (qch a ha h).1
  rw [← g_mod (255 - lg a), ← g_mod (lg a * 254)]
  congr 1
  omega
theorem pwe_inv (a : Nat) : pwe a (-1) = ive a := by simp [pwe, ive]
theorem inv_any (a : Nat) (w : World) (ha : a < 256) : Calls Try.prog 37 #[.int .u8 (a : Int)] w fun e w' => e = .returned (.tuple #[.int .u8 (finv a : Nat), .int .i64 (ive a)]) ∧ Below w.heap.size w w' := by
 have HP : Hid (∀ w, Calls Try.prog 50 #[.int .u8 (a : Int), .int .i64 (-1)] w fun e w' => e = .returned (.tuple #[.int .u8 (finv a : Nat), .int .i64 (ive a)]) ∧ Below w.heap.size w w') := by
  intro w
  have hp := pow_any a (-1) w ha ⟨by decide, by decide⟩
  rw [pwv_inv a ha, pwe_inv] at hp
  exact hp
 go_enter Try.func37, Try.ntmps37
 go_wp2_with (go_at_call 50; refine (HP.out _).mono ?_; rintro e w1 ⟨rfl, hb1⟩)
 go_ret2
 exact ⟨rfl, by assumption⟩
end Go.Proofs.Ythdgpmanijifoaa
