/-
  Contracts of the tree's reference: exprs, MayExpr, Deep.
-/
import Derived.Test.YtemhodenkgngmaaDoorQuues00
import Derived.Test.YtemhodenkgngmaaDoorQuues05
import Derived.Lib.MinMax
set_option maxRecDepth 100000
set_option maxHeartbeats 16000000
namespace Go.Proofs.YtemhodenkgngmaaDoor
open Go.RowKit
theorem qbh (w : World) (a : Option Addr) (n c : Nat) (F : Nat → Xt) (left : Int) (hX : ∀ d, XL d w a n F) (hn : n ≤ 140737488351232) (h1 : -1 ≤ left) (h2 : left ≤ 8192) :
  Calls Tryd.prog 49 #[.slice a n c, .int .i64 left] w fun e w' => e = .returned (.int .i64 (xks (xleft 16) F n left)) ∧ Below w.heap.size w w' := by
 have HX := qa0 hX
 clear hX
 go_enter Tryd.func49, Tryd.ntmps49
 go_wp2
 go_loopw [1, 5] (fun vl vi wr => ∃ (i : Nat) (r : Int), i ≤ n ∧ vi = .int .i64 (i : Int) ∧ vl = .int .i64 r ∧ Hid (xks (xleft 16) F i left = r) ∧ -1 ≤ r ∧ r ≤ 8192 ∧ Below w.heap.size w wr) (fun _ vi _ => n - (intOf vi).toNat)
 case atStart => exact ⟨0, left, by omega, rfl, rfl, rfl, by omega, by omega, Below.refl _ _⟩
 case round =>
  obtain ⟨i, r, hi, rfl, rfl, Hr, hr1, hr2, hb⟩ := hrel
  have HB := qa0 hb
  by_cases hlt : i < n
  ·have p0 : (0 : Int) ≤ (i : Int) := by omega
   have p1 : (i : Int) < (n : Int) := by omega
   by_cases hr : 0 ≤ r
   ·obtain ⟨b, o, kk, nl, nn, ll, cc, nx, ka, kc, rfl, hkid, hcl⟩ := XL.at_ HX.out (i := i) hlt
    obtain ⟨k0, k1, k2, k3, k4, k5⟩ := hcl _ hb
    have HKid := qa0 hkid
    have qr : decide (0 ≤ r) = true := decide_eq_true hr
    obtain ⟨r2, Hr2⟩ : ∃ r2, Hid (xleft 16 (F i) r = r2) := ⟨_, rfl⟩
    have hr3 := qa5 16 (F i) r hr
    rw [Hr2.out] at hr3
    have HC : Hid (∀ w' : World, Below w.heap.size w w' → Calls Tryd.prog 47 #[.agg #[.int .u8 (kk : Int), .int .i64 nn, .string nx, .slice ka nl kc, .int .i64 ll, .int .i64 cc], .int .i64 r, .int .i64 ((16 : Nat) : Int)] w' fun e w'' => e = .returned (.int .i64 r2) ∧ Below w'.heap.size w' w'') := fun w' hb => by rw [← Hr2.out]; exact qcy 16 w' (F i) _ r (by omega) (HKid.out.later hb) (by omega) (by omega)
    have Hk : Hid (xks (xleft 16) F (i + 1) left = r2) := by show _ = _; rw [qa4, Hr.out, if_neg (by omega), Hr2.out]
    clear hkid hcl hb
    go_wp2_with (go_at_call 47; refine (HC.out _ HB.out).mono ?_; rintro e w2 ⟨rfl, hb2⟩; have HB2 := qa0 (jtwo HB.out hb2); clear hb2)
    exact ⟨⟨i + 1, r2, by omega, by go_num, rfl, Hk, by omega, by omega, HB2.out⟩, by simp [intOf]; omega⟩
   ·have qr : decide (0 ≤ r) = false := decide_eq_false hr
    have Hk : Hid (xks (xleft 16) F n left = r) := by show _ = _; have h := qah (f := xleft 16) (F := F) (k := i) (left := left) (by rw [Hr.out]; omega) (n - i); rw [show i + (n - i) = n by omega] at h; rw [h, Hr.out]
    clear hb
    go_wp2
    go_ret
    exact ⟨by rw [Hk.out]; rfl, HB.out⟩
  ·obtain rfl : i = n := by omega
   clear hb
   go_wp2
   go_ret
   exact ⟨by rw [Hr.out]; rfl, HB.out⟩
/-- May an expression be? -/
def mayX (T : Xt) : Bool := decide (0 ≤ xleft 16 T 8192)
theorem mayX_mx {T : Xt} (h : mayX T = true) : MX 16 T := ⟨8192, by omega, of_decide_eq_true h⟩
theorem MX.len {d : Nat} {T : Xt} (h : MX (d + 1) T) : (T []).len ≤ 2 := by
 obtain ⟨left, _, h⟩ := h
 obtain ⟨m, hw, _⟩ := qa9 h
 have := qav hw
 omega
theorem MX.no {T : Xt} (h : MX 0 T) : False := by
 obtain ⟨left, _, h⟩ := h
 rw [qae] at h
 omega
end Go.Proofs.YtemhodenkgngmaaDoor
