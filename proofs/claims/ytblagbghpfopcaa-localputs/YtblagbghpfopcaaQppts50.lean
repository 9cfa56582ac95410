/-
  What the checks of stage 7 with a loop over a list need: lists of numbers, bits of numbers.
-/
import Derived.Test.YtblagbghpfopcaaQppts00
import Derived.Test.YtblagbghpfopcaaQppts41
import Derived.Test.YtblagbghpfopcaaQppts42
set_option maxRecDepth 100000
set_option maxHeartbeats 16000000
namespace Go.Proofs.Ytblagbghpfopcaa
open Go.RowKit
theorem shift_m {m : Nat} (h : m < 64) : min (IntKind.u64.wrap (m : Int)).toNat 64 = m := by
 have e : IntKind.u64.wrap (m : Int) = (m : Int) := by rw [IntKind.wrap_u64]; omega
 rw [e]
 omega
theorem qlf {w w' : World} {b o : Nat} {v : Value} (h : w.cell? ⟨b, o, none⟩ = some v) (hb : Below w.heap.size w w') : w'.cell? ⟨b, o, none⟩ = some v := by
 have hlt := qhi h
 have e : w'.cell? ⟨b, o, none⟩ = w.cell? ⟨b, o, none⟩ := by unfold World.cell?; rw [hb.block b hlt]
 rw [e]; exact h
theorem qed {w : World} {r c n k s p : Nat} {a : Option Addr} {F : Nat → Nat} (ha : Mt w a n k F) (R : Rt r c n) (hs : s < 2 ^ r) (hp : SpS (m2 F r c) r s p) :
  ∀ w' : World, Below w.heap.size w w' → Calls Try.prog 8 #[mv r c a n k, .int .u64 (s : Int)] w' fun e w'' => e = .returned (.tuple #[.int .u64 (p : Int), .int .i64 0]) ∧ Below w'.heap.size w' w'' := fun w' hb =>
 (rSpan_ok w' r c n k s a F (ha.sl.later hb) R hs).mono (fun e w'' h => by
  obtain ⟨t', he, ht', hbb⟩ := h
  rw [ht'.one hp] at he
  exact ⟨he, hbb⟩)
theorem qfi {s i r : Nat} (hr : r ≤ 64) (hs : s < 2 ^ r) (hi : i < r) {o : Bool} (h : o = true ↔ bt s i = 1) : ∀ w' : World, Calls Try.prog 10 #[.int .u64 (s : Int), .int .i64 (i : Int)] w' fun e w'' => e = .returned (.bool o) ∧ Below w'.heap.size w' w'' := fun w' =>
 (qfb s i w' (qce hr hs) (by omega)).mono (fun e w'' h2 => by
  obtain ⟨he, rfl⟩ := h2
  rw [ql2 (b' := o) ⟨fun h => of_decide_eq_true h, fun h => decide_eq_true h⟩ h] at he
  exact ⟨he, Below.refl _ _⟩)
end Go.Proofs.Ytblagbghpfopcaa
