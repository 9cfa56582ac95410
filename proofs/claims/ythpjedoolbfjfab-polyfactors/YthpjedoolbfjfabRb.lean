/-
  Contracts of the polynomials' reference: Add, Mul.
-/
import Derived.Test.YthpjedoolbfjfabRa
namespace Go.Proofs.Ythpjedoolbfjfab
open Go.RowKit
theorem at_at (w : World) (a : Option Addr) (n c k v : Nat) (f : Nat → Nat) (h : Sl w a n f) (hv : Hid (zx f n k = v)) :
    Calls Try.prog 36 #[.slice a n c, .int .i64 (k : Int)] w fun e w' => e = .returned (.int .u8 (v : Int)) ∧ w = w' := by
  have e : zat f n (k : Int) = v := by unfold zat; rw [if_neg (by omega), Int.toNat_natCast]; exact hv.out
  rw [← e]
  exact (at_any w a n c f k h).mono fun _ _ h => ⟨h.1, h.2.symm⟩
theorem rtrim_at (w : World) (a : Option Addr) (n c t : Nat) (f : Nat → Nat) (h : Lk w a n c f) (ht : Hid (tlen f n = t)) :
    Calls Try.prog 24 #[.slice a n c] w fun e w' => ∃ s k, e = .returned (.slice s t k) ∧ Lk w' s t k f ∧ Below w.heap.size w w' ∧ From w.heap.size s := by
  rw [← ht.out]; exact rtrim_any w a n c f h
theorem long_false (w : World) (a : Option Addr) (n c : Nat) (f : Nat → Nat) (h : Lk w a n c f) (hl : Hid (tlen f n ≤ 512)) :
    Calls Try.prog 35 #[.slice a n c] w fun e w' => e = .returned (.bool false) ∧ Below w.heap.size w w' :=
  (long_any w a n c f h).mono fun _ _ H => ⟨by rw [H.1, decide_eq_false (by have := hl.out; omega)], H.2⟩
theorem long_true (w : World) (a : Option Addr) (n c : Nat) (f : Nat → Nat) (h : Lk w a n c f) (hl : Hid (512 < tlen f n)) :
    Calls Try.prog 35 #[.slice a n c] w fun e w' => e = .returned (.bool true) ∧ Below w.heap.size w w' :=
  (long_any w a n c f h).mono fun _ _ H => ⟨by rw [H.1, decide_eq_true hl.out], H.2⟩
end Go.Proofs.Ythpjedoolbfjfab
