/-
  Contracts of inBounds, powerWithin, Pow, Exp, Log, Inv, Div.
-/
import Derived.Test.YthdgpmanijifoaaQbbst00
import Derived.Test.YthdgpmanijifoaaQbbst03
import Derived.Deep.QuietTactic
import Derived.BigQuiet
set_option maxRecDepth 100000
set_option maxHeartbeats 16000000
namespace Go.Proofs.Ythdgpmanijifoaa
open Go.RowKit
/-- A number that an int holds. -/
def I64 (n : Int) : Prop := -9223372036854775808 ≤ n ∧ n ≤ 9223372036854775807
/-- The exponent from 0 to 254 whose power is that of n. -/
def inb (n : Int) : Int := n % 255
theorem inb_bd (n : Int) : 0 ≤ inb n ∧ inb n < 255 := by unfold inb; omega
theorem tmod_neg (n : Int) (h : n < 0) : n.tmod 255 = -((-n) % 255) := by
 have e : n = -(-n) := by omega
 have e2 : (-n).tmod 255 = (-n) % 255 := Int.tmod_eq_emod_of_nonneg (by omega)
 rw [← e2, ← Int.neg_tmod, ← e]
theorem inb_any (n : Int) (w : World) (h : I64 n) : Calls Try.prog 62 #[.int .i64 n] w fun e w' => e = .returned (.int .i64 (inb n)) ∧ w' = w := by
 obtain ⟨h1, h2⟩ := h
 by_cases h0 : 0 ≤ n
 ·go_enter Try.func62, Try.ntmps62
  go_wp2
  go_ret
  exact ⟨rfl, rfl⟩
 ·have HT : Hid (n.tmod 255 = -((-n) % 255)) := tmod_neg n (by omega)
  go_enter Try.func62, Try.ntmps62
  go_wp2
  ·have h3 : n.tmod 255 < 0 := by assumption
   go_ret
   exact ⟨qan (by unfold inb wrap64; rw [HT.out] at *; omega), rfl⟩
  ·have h3 : 0 ≤ n.tmod 255 := by assumption
   go_ret
   exact ⟨qan (by unfold inb; rw [HT.out] at *; omega), rfl⟩
theorem qcd (w : World) (cs ls : Array Value) (HC : Hid (cs = row 255 g)) (HL : Hid (ls = row 256 lg)) (a : Nat) (n : Int) (ha : a < 256) (h0 : a ≠ 0) (hn : I64 n) :
  Calls Try.prog 58 #[.agg cs, .agg ls, .int .u8 (a : Int), .int .i64 n] w fun e w' => e = .returned (.int .u8 ((g (lg a * (inb n).toNat % 255) : Nat) : Int)) ∧ Below w.heap.size w w' := by
 obtain ⟨m, hm, hm2⟩ : ∃ m : Nat, inb n = (m : Int) ∧ m < 255 := ⟨(inb n).toNat, by have := inb_bd n; omega, by have := inb_bd n; omega⟩
 obtain ⟨l, hl, hl2⟩ : ∃ l : Nat, lg a = l ∧ l < 255 := ⟨_, rfl, (qch a ha h0).1⟩
 have hlm : l * m ≤ 254 * 254 := Nat.mul_le_mul (by omega) (by omega)
 have hp : ((l : Int) * (m : Int)) = ((l * m : Nat) : Int) := by simp
 obtain ⟨q, hq, hq2, HQ⟩ : ∃ q : Nat, wrap64 ((l : Int) * (m : Int)) = (q : Int) ∧ q ≤ 64516 ∧ Hid (q = l * m) := ⟨l * m, by rw [hp]; unfold wrap64; omega, hlm, rfl⟩
 obtain ⟨r, hr, hr2, HR⟩ : ∃ r : Nat, inb (q : Int) = (r : Int) ∧ r < 255 ∧ Hid (r = l * m % 255) := ⟨q % 255, by unfold inb; omega, by omega, by rw [HQ.out]; rfl⟩
 have hi1 : ((w.alloc (.cells cs 94)).alloc (.cells ls 96)).cell? ⟨w.heap.size + 1, a, none⟩ = some (.int .u8 (l : Int)) := by
  rw [cell_of_row _ _ _ ls 96 (0, 0) (heap_alloc2_new ..), HL.out, qaw 256 lg a ha, hl]
 have hi2 : ((w.alloc (.cells cs 94)).alloc (.cells ls 96)).cell? ⟨w.heap.size, r, none⟩ = some (.int .u8 (g r : Nat)) := by
  rw [cell_of_row _ _ _ cs 94 (0, 0) (heap_alloc2_old ..), HC.out, qaw 255 g _ (by omega)]
 rw [hm, hl, Int.toNat_natCast, ← HR.out]
 clear hp hlm hl HC HL
 obtain ⟨hn1, hn2⟩ := hn
 go_enter Try.func58, Try.ntmps58
 go_wp2
 go_quiet ((go_at_call 62; exact Calls.quiet_of_same (inb_any _ _ ⟨by omega, by omega⟩)))
 go_wp2
 go_ret
 exact ⟨rfl, below_drewN (((Below.refl _ _).alloc (Nat.le_refl _) _).alloc (by simp) _) _⟩
end Go.Proofs.Ythdgpmanijifoaa
