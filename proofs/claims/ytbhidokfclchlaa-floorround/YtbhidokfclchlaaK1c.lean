/-
  The floats' functions: Abs, Trunc; isPart, isCell; how far apart two cells are.
-/
import Derived.Test.YtbhidokfclchlaaK1b
import Derived.Laws.Externs
namespace Go.Proofs.Ytbhidokfclchlaa
open Go.RowKit
theorem pbits (x : Nat) (w : World) : (callFunc 21 #[.float .f64 x]).run Try.prog w = .ok (.value (.int .u64 (x : Int))) w := by
  rw [run_callFunc_extern (e := Extern.MathFloatBits.float64bits) Try.func21 (by kernel_rfl) (by kernel_rfl) (by kernel_rfl) (by kernel_rfl)]; rfl
theorem pfrom (x : Nat) (w : World) : (callFunc 20 #[.int .u64 (x : Int)]).run Try.prog w = .ok (.value (.float .f64 x)) w := by
  rw [run_callFunc_extern (e := Extern.MathFloatBits.float64frombits) Try.func20 (by kernel_rfl) (by kernel_rfl) (by kernel_rfl) (by kernel_rfl)]; rfl
theorem parch (x s m : Nat) (g : Bool) (i : Int) (w : World) (h : FloatKind.f64.decode x = .number g s i) (hm : FloatKind.f64.encode ((FloatKind.f64.decode x).integral .zero) = m) : (callFunc 23 #[.float .f64 x]).run Try.prog w = .ok (.value (.float .f64 m)) w := by
  rw [run_callFunc_extern (e := Extern.MathFloor.toIntegral "math.archTrunc" .zero) Try.func23 (by kernel_rfl) (by kernel_rfl) (by kernel_rfl) (by kernel_rfl)]
  have e : Extern.MathFloor.toIntegral "math.archTrunc" .zero #[.float .f64 x] = pure (.float .f64 (FloatKind.f64.encode ((FloatKind.f64.decode x).integral .zero))) := by
    delta Extern.MathFloor.toIntegral
    conv => lhs; whnf
    rw [h]
  rw [e, hm]
  rfl
theorem run_store_cx {P : Program} {w : World} {a : Addr} {u : Value} {m : Mode} {k : FloatKind} {x y : Nat} (hc : w.cell? a = some u) (hz : w.frozen? a = false) : (store a (.complex k x y) m).run P w = .ok () (w.setCell a (.complex k x y)) := by
  rw [run_store P w a _ m rfl, hc, hz]; rfl
theorem u64_low (x : Nat) (h : x < 2 ^ 64) : bits .andNot .u64 (x : Int) 9223372036854775808 = ((x % 2 ^ 63 : Nat) : Int) := by
  have := u64_andNot_nat x 9223372036854775808 h (by decide)
  rw [show (9223372036854775808 : Int) = ((9223372036854775808 : Nat) : Int) from rfl, this, show 18446744073709551615 - 9223372036854775808 = 2 ^ 63 - 1 from rfl, Nat.and_two_pow_sub_one_eq_mod]
theorem pabs (x : Nat) (a : Int) (w : World) (hx : Fw x a) (ha : -12 ≤ a ∧ a ≤ 12) :
    Calls Try.prog 14 #[.float .f64 x] w fun e w' => ∃ r, e = .returned (.float .f64 r) ∧ Fw r (a.natAbs : Int) ∧ w = w' := by
  obtain ⟨r, hr⟩ : ∃ r, x % 2 ^ 63 = r := ⟨_, rfl⟩
  have HF : Hid (Fw r (a.natAbs : Int)) := hr ▸ (fw_abs hx ha).2
  have hl := u64_low x (fw_abs hx ha).1
  rw [hr] at hl
  have hb := fun w => pbits x w
  have hf := fun w => pfrom r w
  clear hx ha hr
  go_enter Try.func14, Try.ntmps14
  go_wp2_with (first | simp only [hb] | simp only [hf])
  go_ret
  exact ⟨r, rfl, HF.out, rfl⟩
theorem ptrunc (x : Nat) (a : Int) (w : World) (hx : Fw x a) (ha : -12 ≤ a ∧ a ≤ 12) :
    Calls Try.prog 19 #[.float .f64 x] w fun e w' => ∃ r, e = .returned (.float .f64 r) ∧ Fw r a ∧ w = w' := by
  obtain ⟨g, s, i, h⟩ := fw_number hx ha
  obtain ⟨m, hm⟩ : ∃ m, FloatKind.f64.encode ((FloatKind.f64.decode x).integral .zero) = m := ⟨_, rfl⟩
  have HF : Hid (Fw m a) := hm ▸ fw_trunc hx ha
  have ht := fun w => parch x s m g i w h hm
  clear hx ha h hm
  go_enter Try.func19, Try.ntmps19
  go_wp2_with (simp only [ht])
  go_ret
  exact ⟨m, rfl, HF.out, rfl⟩
end Go.Proofs.Ytbhidokfclchlaa
