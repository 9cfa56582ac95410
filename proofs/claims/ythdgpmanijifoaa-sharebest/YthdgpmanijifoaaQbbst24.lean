/-
  Stage 22: by, in, less of the reference.
-/
import Derived.Test.YthdgpmanijifoaaQbbst00
import Derived.Test.YthdgpmanijifoaaQbbst23
set_option maxRecDepth 100000
set_option maxHeartbeats 16000000
namespace Go.Proofs.Ythdgpmanijifoaa
open Go.RowKit
theorem qcv (w : World) (a : Option Addr) (n p : Nat) (f : Nat → Int) (g : Nat → Nat) (v : Int) (h : Tml w a n f g) (hn : n ≤ 140737488351232) :
  Calls Try.prog 31 #[.slice a n p, .int .i64 v] w fun e w' => e = .returned (.int .u8 (byv f g v n : Nat)) ∧ w = w' := by
 have HT := qa0 h
 obtain ⟨z, HZ⟩ : ∃ z, Hid (byv f g v n = z) := ⟨_, rfl⟩
 rw [HZ.out]
 clear h
 go_enter Try.func31, Try.ntmps31
 go_wp2
 go_loopw [5] (fun vi wr => ∃ i : Nat, i ≤ n ∧ vi = .int .i64 (i : Int) ∧ byf f g v i (n - i) = z ∧ w = wr) (fun vi _ => n - (intOf vi).toNat)
 case atStart => exact ⟨0, by omega, rfl, HZ.out, rfl⟩
 case round =>
  obtain ⟨i, hie, rfl, hz, rfl⟩ := hrel
  have HI := qa0 hz
  clear hz
  by_cases hlt : i < n
  ·obtain ⟨hg, x, o, rfl, t0, t1⟩ := HT.out i hlt
   obtain ⟨u, HU⟩ : ∃ z, Hid (f i = z) := ⟨_, rfl⟩
   obtain ⟨y, HY⟩ : ∃ z, Hid (g i = z) := ⟨_, rfl⟩
   rw [HU.out] at t0
   rw [HY.out] at t1
   have p0 : (0 : Int) ≤ (i : Int) := by omega
   have p1 : (i : Int) < (n : Int) := by omega
   by_cases h1 : u = v
   ·have e1 : (u == v) = true := by simp; omega
    have H1 := qa0 h1
    clear h1
    go_wp2
    go_ret
    exact ⟨by rw [← HI.out, qco hlt (HU.out.trans H1.out), HY.out]; rfl, rfl⟩
   ·have e1 : (u == v) = false := by simp; omega
    have H1 := qa0 h1
    clear h1
    go_wp2
    exact ⟨⟨i + 1, by omega, by go_num, by rw [← qax hlt (by rw [HU.out]; exact H1.out), HI.out], trivial⟩, by simp [intOf]; omega⟩
  ·obtain rfl : i = n := by omega
   go_wp2
   go_ret
   exact ⟨by rw [← HI.out, qcp]; rfl, rfl⟩
theorem rin_any (w : World) (a : Option Addr) (n p : Nat) (f : Nat → Int) (g : Nat → Nat) (x : Ky) (h : Tml w a n f g) (hn : n ≤ 140737488351232) (hx : x.2.2 < 256) :
  Calls Try.prog 27 #[.slice a n p, .int .i64 x.1, .int .i64 x.2.1, .int .u8 (x.2.2 : Nat)] w fun e w' => AnsB e (InT f g n x) ∧ w = w' := by
 have HT := qa0 h
 obtain ⟨u, v, r⟩ := x
 dsimp only at hx ⊢
 have hby : ∀ v, byv f g v n < 256 := fun v => by
  by_cases e : ∃ i, i < n ∧ f i = v
  ·have : ∀ k i, i + k = n → byf f g v i k < 256 := by
    intro k
    induction k with
    | zero => intro i _; show 0 < 256; omega
    | succ k ih =>
     intro i hi
     rw [byf]
     split
     ·exact (h i (by omega)).1
     ·exact ih (i + 1) (by omega)
   exact this n 0 (by omega)
  ·rw [qay fun i hi e2 => e ⟨i, hi, e2⟩]; omega
 obtain ⟨y, HY⟩ : ∃ z, Hid (byv f g u n = z) := ⟨_, rfl⟩
 obtain ⟨z, HZ⟩ : ∃ z, Hid (byv f g v n = z) := ⟨_, rfl⟩
 have hy : y < 256 := by rw [← HY.out]; exact hby u
 have hz : z < 256 := by rw [← HZ.out]; exact hby v
 have HC1 := qa0 (qcv w a n p f g u h hn)
 have HC2 := qa0 (qcv w a n p f g v h hn)
 rw [HY.out] at HC1
 rw [HZ.out] at HC2
 obtain ⟨m, HM⟩ : ∃ z, Hid (fm y r = z) := ⟨_, rfl⟩
 have HMul : Hid (∀ w, Calls Try.prog 26 #[.int .u8 (y : Int), .int .u8 (r : Int)] w fun e w' => e = .returned (.int .u8 (m : Int)) ∧ w = w') := by rw [← HM.out]; exact fun w => qcn y r w hy hx
 have HIff : Hid (InT f g n (u, v, r) ↔ (y ≠ 0 ∧ z ≠ 0 ∧ m = z)) := by
  show (byv f g u n ≠ 0 ∧ byv f g v n ≠ 0 ∧ fm (byv f g u n) r = byv f g v n) ↔ _
  rw [HY.out, HZ.out, HM.out]
 clear h hby
 by_cases h1 : y = 0
 ·have e1 : ((y : Int) != 0) = false := by simp; omega
  go_enter Try.func27, Try.ntmps27
  go_wp2_with (first
   | (go_at_call 31; have _x := n1; refine HC2.out.mono ?_; rintro e w' ⟨rfl, rfl⟩)
   | (go_at_call 31; refine HC1.out.mono ?_; rintro e w' ⟨rfl, rfl⟩; have n1 := h1))
  go_ret
  exact ⟨AnsB.no (by rw [HIff.out]; omega), rfl⟩
 ·have e1 : ((y : Int) != 0) = true := by simp; omega
  by_cases h2 : z = 0
  ·have e2 : ((z : Int) != 0) = false := by simp; omega
   go_enter Try.func27, Try.ntmps27
   go_wp2_with (first
    | (go_at_call 31; have _x := n1; refine HC2.out.mono ?_; rintro e w' ⟨rfl, rfl⟩)
    | (go_at_call 31; refine HC1.out.mono ?_; rintro e w' ⟨rfl, rfl⟩; have n1 := h1))
   go_ret
   exact ⟨AnsB.no (by rw [HIff.out]; omega), rfl⟩
  ·have e2 : ((z : Int) != 0) = true := by simp; omega
   have HR := qa0 (AnsB.dec ((m : Int) == (z : Int)) (show _ ↔ InT f g n (u, v, r) by rw [HIff.out]; simp; omega))
   go_enter Try.func27, Try.ntmps27
   go_wp2_with (first
    | (go_at_call 31; have _x := n1; refine HC2.out.mono ?_; rintro e w' ⟨rfl, rfl⟩)
    | (go_at_call 31; refine HC1.out.mono ?_; rintro e w' ⟨rfl, rfl⟩; have n1 := h1)
    | (go_at_call 26; refine (HMul.out _).mono ?_; rintro e w' ⟨rfl, rfl⟩))
   go_ret
   exact ⟨HR.out, rfl⟩
theorem rls_any (w : World) (x y : Ky) (m n : Nat) : Calls Try.prog 28 #[prv x (m : Nat), prv y (n : Nat)] w fun e w' => AnsB e (lexlt x y) ∧ Below w.heap.size w w' := by
 obtain ⟨x1, x2, x3⟩ := x
 obtain ⟨y1, y2, y3⟩ := y
 by_cases h2 : x1 = y1
 ·have e2 : (x1 != y1) = false := by simp; omega
  by_cases h3 : x2 = y2
  ·have e3 : (x2 != y2) = false := by simp; omega
   go_enter Try.func28, Try.ntmps28
   go_wp2
   go_ret
   exact ⟨AnsB.dec _ (by unfold lexlt; dsimp only; simp; omega), jtwo (jlow _ _) (jlow _ _)⟩
  ·have e3 : (x2 != y2) = true := by simp; omega
   go_enter Try.func28, Try.ntmps28
   go_wp2
   go_ret
   exact ⟨AnsB.dec _ (by unfold lexlt; dsimp only; simp; omega), jtwo (jlow _ _) (jlow _ _)⟩
 ·have e2 : (x1 != y1) = true := by simp; omega
  go_enter Try.func28, Try.ntmps28
  go_wp2
  go_ret
  exact ⟨AnsB.dec _ (by unfold lexlt; dsimp only; simp; omega), jtwo (jlow _ _) (jlow _ _)⟩
end Go.Proofs.Ythdgpmanijifoaa
