/-
  The floats' functions: Abs, Trunc; isPart, isCell; how far apart two cells are.
-/
import Derived.Test.YtfajmoiffjbcbabK1b
import Derived.Laws.Externs
namespace Go.Proofs.Ytfajmoiffjbcbab
open Go.RowKit
theorem pbits (x : Nat) (w : World) : (callFunc 26 #[.float .f64 x]).run Try.prog w = .ok (.value (.int .u64 (x : Int))) w := by
  rw [run_callFunc_extern (e := Extern.MathFloatBits.float64bits) Try.func26 (by kernel_rfl) (by kernel_rfl) (by kernel_rfl) (by kernel_rfl)]; rfl
theorem pfrom (x : Nat) (w : World) : (callFunc 25 #[.int .u64 (x : Int)]).run Try.prog w = .ok (.value (.float .f64 x)) w := by
  rw [run_callFunc_extern (e := Extern.MathFloatBits.float64frombits) Try.func25 (by kernel_rfl) (by kernel_rfl) (by kernel_rfl) (by kernel_rfl)]; rfl
theorem run_store_cx {P : Program} {w : World} {a : Addr} {u : Value} {m : Mode} {k : FloatKind} {x y : Nat} (hc : w.cell? a = some u) (hz : w.frozen? a = false) : (store a (.complex k x y) m).run P w = .ok () (w.setCell a (.complex k x y)) := by
  rw [run_store P w a _ m rfl, hc, hz]; rfl
theorem u64_low (x : Nat) (h : x < 2 ^ 64) : bits .andNot .u64 (x : Int) 9223372036854775808 = ((x % 2 ^ 63 : Nat) : Int) := by
  have := u64_andNot_nat x 9223372036854775808 h (by decide)
  rw [show (9223372036854775808 : Int) = ((9223372036854775808 : Nat) : Int) from rfl, this, show 18446744073709551615 - 9223372036854775808 = 2 ^ 63 - 1 from rfl, Nat.and_two_pow_sub_one_eq_mod]
theorem pabs (x : Nat) (a : Int) (w : World) (hx : Fw x a) (ha : -12 ≤ a ∧ a ≤ 12) :
    Calls Try.prog 23 #[.float .f64 x] w fun e w' => ∃ r, e = .returned (.float .f64 r) ∧ Fw r (a.natAbs : Int) ∧ w = w' := by
  obtain ⟨r, hr⟩ : ∃ r, x % 2 ^ 63 = r := ⟨_, rfl⟩
  have HF : Hid (Fw r (a.natAbs : Int)) := hr ▸ (fw_abs hx ha).2
  have hl := u64_low x (fw_abs hx ha).1
  rw [hr] at hl
  have hb := fun w => pbits x w
  have hf := fun w => pfrom r w
  clear hx ha hr
  go_enter Try.func23, Try.ntmps23
  go_wp2_with (first | simp only [hb] | simp only [hf])
  go_ret
  exact ⟨r, rfl, HF.out, rfl⟩
end Go.Proofs.Ytfajmoiffjbcbab
