/-
  Contract of the program's Where.
-/
import Derived.Test.YtipjejkjoiifdaaBb
import Derived.Test.YtipjejkjoiifdaaBs
import Derived.Lib.MinMax
namespace Go.Proofs.Ytipjejkjoiifdaa
open Go.RowKit
set_option maxRecDepth 20000 in
set_option maxHeartbeats 2000000 in
theorem twhere (w : World) (s : ByteArray) (at_ : Int) (m : Nat) (hs : s.size ≤ 140737488351232) (_ : -9223372036854775808 ≤ at_) (_ : at_ ≤ 9223372036854775807) (HM : Hid (m = min at_.toNat s.size)) :
    Calls Try.prog 4 #[.string s, .int .i64 at_] w fun e w' => e = .returned (.tuple #[.int .i64 (lnn s m : Nat), .int .i64 (cln s m : Nat)]) ∧ Below w.heap.size w w' := by
  obtain ⟨q, Hq⟩ : ∃ q, Hid (at_.toNat = q) := ⟨_, rfl⟩
  have hm := HM.out
  rw [Hq.out] at hm
  have hq := Hq.out
  have hms : m ≤ s.size := by omega
  obtain ⟨X, HX⟩ : ∃ X, Hid (s.extract 0 m = X) := ⟨_, rfl⟩
  have hXs : X.size = m := by rw [← HX.out, size_extract hms, Nat.sub_zero]
  obtain ⟨a, HA⟩ : ∃ a, Hid (lnn s m = a) := ⟨_, rfl⟩
  obtain ⟨b, HB⟩ : ∃ b, Hid (cln s m = b) := ⟨_, rfl⟩
  have ha := lnn_le s m
  have hb := cln_le s m
  rw [HA.out] at ha
  rw [HB.out] at hb
  obtain ⟨ha1, ha2⟩ := ha
  obtain ⟨hb1, hb2⟩ := hb
  obtain ⟨k, Hk⟩ : ∃ k : Nat, Hid (Lib.countByte X.data.toList 10 = k) := ⟨_, rfl⟩
  obtain ⟨i, Hi⟩ : ∃ i : Int, Hid (Lib.lastIndexByte X 10 = i) := ⟨_, rfl⟩
  have e1 : 1 + (k : Int) = (a : Int) := by have := lnn_whole s m hms; rw [HX.out, Hk.out, HA.out] at this; omega
  have e2 : (m : Int) - i = (b : Int) := by have := cln_whole s m hms; rw [HX.out, Hi.out, HB.out] at this; exact this
  have HC : Hid (∀ w' : World, Calls Try.prog 6 #[.string X, .string ⟨#[10]⟩] w' fun e w'' => e = .returned (.int .i64 (k : Int)) ∧ w' = w'') := fun w' => (count_raw w' X 10).mono (fun e w'' h => ⟨by rw [h.1, Hk.out], h.2.symm⟩)
  have HL : Hid (∀ w' : World, Calls Try.prog 7 #[.string X, .int .u8 10] w' fun e w'' => e = .returned (.int .i64 i) ∧ w' = w'') := fun w' => (lidx_raw w' X 10 (by omega)).mono (fun e w'' h => ⟨by rw [h.1, Hi.out], h.2.symm⟩)
  rw [HA.out, HB.out]
  have hsl : s.extract 0 m = X := HX.out
  have r0 : (0 : Int) ≤ (m : Int) := by omega
  have r1 : (m : Int) ≤ (s.size : Int) := by omega
  have g1 : max at_ 0 = (q : Int) := by omega
  have g2 : min (q : Int) (s.size : Int) = (m : Int) := by omega
  clear hq Hq HM hm HX Hk Hi HA HB
  go_enter Try.func4, Try.ntmps4
  go_wp2_with (first
    | (go_at_call 6; refine (HC.out _).mono ?_; rintro e w' ⟨rfl, rfl⟩)
    | (go_at_call 7; refine (HL.out _).mono ?_; rintro e w' ⟨rfl, rfl⟩))
  go_ret2
  exact ⟨rfl, Below.refl _ _⟩
end Go.Proofs.Ytipjejkjoiifdaa
