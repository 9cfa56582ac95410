/-
  Degrees, values, roots and divisors of polynomials: no Go in sight.
-/
import Derived.Test.YtlmanliinncdiaaGreatQggps00
import Derived.Test.YtlmanliinncdiaaGreatQggps08
set_option maxRecDepth 100000
set_option maxHeartbeats 16000000
namespace Go.Proofs.YtlmanliinncdiaaGreat

/-- No coefficient from n on. -/
def Above (n : Nat) (p : Nat → Nat) : Prop := ∀ i, n ≤ i → p i = 0
theorem Above.mono {n m : Nat} {p : Nat → Nat} (h : Above n p) (hnm : n ≤ m) : Above m p := fun i hi => h i (by omega)
theorem Above.pa {n : Nat} {p q : Nat → Nat} (hp : Above n p) (hq : Above n q) : Above n (pa p q) := fun i hi => by
 show p i ^^^ q i = 0
 rw [hp i hi, hq i hi]; rfl
theorem pm_above {n m : Nat} {p q : Nat → Nat} (hp : Above n p) (hq : Above m q) (i : Nat) (hi : n + m ≤ i + 1) : pm p q i = 0 := by
 refine qaf (fun k _ => ?_)
 by_cases h : n ≤ k
 ·rw [hp k h, qab]
 ·rw [hq (i - k) (by omega), qa7]
theorem Above.pm {n m : Nat} {p q : Nat → Nat} (hp : Above n p) (hq : Above m q) : Above (n + m) (pm p q) := fun i hi => pm_above hp hq i (by omega)
theorem qbl (a b : Nat) : a ^^^ b = 0 ↔ a = b := by
 constructor
 ·intro h
  have : a ^^^ b ^^^ b = 0 ^^^ b := by rw [h]
  rw [Nat.xor_assoc, Nat.xor_self, Nat.xor_zero, Nat.zero_xor] at this
  exact this
 ·rintro rfl; exact Nat.xor_self a
/-! ### Values -/
/-- The value of a polynomial of n coefficients at x. -/
def ev (p : Nat → Nat) (n x : Nat) : Nat := xs (fun i => fm (p i) (fpow x i)) n
/-! ### Roots -/
/-- x and r. -/
def lin (r : Nat) (i : Nat) : Nat := if i = 0 then r else if i = 1 then 1 else 0
theorem qi1 (r : Nat) : Above 2 (lin r) := fun i hi => by unfold lin; rw [if_neg (by omega), if_neg (by omega)]
theorem lin_pm (r : Nat) (q : Nat → Nat) (hq : El q) : (∀ i, pm (lin r) q (i + 1) = fm r (q (i + 1)) ^^^ q i) ∧ pm (lin r) q 0 = fm r (q 0) := by
 constructor
 ·intro i
  have z : xs (fun k => fm (lin r (k + 1 + 1)) (q (i + 1 - (k + 1 + 1)))) i = 0 := qaf (fun k _ => by
   rw [show lin r (k + 1 + 1) = 0 from qi1 r _ (by omega), qab])
  unfold pm
  rw [qdw, qdw, z, Nat.xor_zero]
  show fm (lin r 0) (q (i + 1 - 0)) ^^^ fm (lin r 1) (q (i + 1 - 1)) = _
  rw [show lin r 0 = r from rfl, show lin r 1 = 1 from rfl, Nat.sub_zero, Nat.add_sub_cancel, qap _ (hq i)]
 ·simp only [pm, xs, Nat.zero_xor]
  rfl
/-- A root splits off a factor. -/
theorem factor {n : Nat} {p : Nat → Nat} {r : Nat} (hp : El p) (hr : r < 256) (hn : Above (n + 1) p) (h0 : ev p (n + 1) r = 0) : ∃ q, El q ∧ Above n q ∧ ∀ i, p i = pm (lin r) q i := by
 -- q i: the sum of p (i + 1 + j) times r to the power j
 refine ⟨fun i => xs (fun j => fm (p (i + 1 + j)) (fpow r j)) (n - i), fun i => qex (fun k _ => qai _ _ (hp _)), fun i hi => by show xs _ (n - i) = 0; rw [show n - i = 0 by omega]; rfl, ?_⟩
 have hel : El (fun i => xs (fun j => fm (p (i + 1 + j)) (fpow r j)) (n - i)) := fun i => qex (fun k _ => qai _ _ (hp _))
 have step : ∀ i k, fm r (xs (fun j => fm (p (i + 1 + j)) (fpow r j)) k) = xs (fun j => fm (p (i + 1 + j)) (fpow r (j + 1))) k := by
  intro i k
  rw [qbx]
  refine qa5 (fun j _ => ?_)
  simp only [fpow]
  rw [← qag r _ _ hr (hp _), qac r _ hr (hp _), qag _ _ _ (hp _) hr, qac r _ hr (fpow_lt r j)]
 have head : ∀ i k, xs (fun j => fm (p (i + j)) (fpow r j)) (k + 1) = p i ^^^ xs (fun j => fm (p (i + 1 + j)) (fpow r (j + 1))) k := by
  intro i k
  rw [qdw]
  show fm (p (i + 0)) (fpow r 0) ^^^ _ = _
  rw [show fpow r 0 = 1 from rfl, Nat.add_zero, qb9 _ (hp i)]
  congr 1
  refine qa5 (fun j _ => ?_)
  rw [show i + (j + 1) = i + 1 + j by omega]
 intro i
 cases i with
 | zero =>
  rw [(lin_pm r _ hel).2]
  show p 0 = fm r (xs (fun j => fm (p (0 + 1 + j)) (fpow r j)) (n - 0))
  rw [step, Nat.sub_zero]
  have e := head 0 n
  have e2 : xs (fun j => fm (p (0 + j)) (fpow r j)) (n + 1) = 0 := by
   exact (qa5 (fun k _ => by rw [Nat.zero_add])).trans h0
  rw [e2] at e
  exact (qbl _ _).mp e.symm
 | succ i =>
  rw [(lin_pm r _ hel).1 i]
  show p (i + 1) = fm r (xs (fun j => fm (p (i + 1 + 1 + j)) (fpow r j)) (n - (i + 1))) ^^^ xs (fun j => fm (p (i + 1 + j)) (fpow r j)) (n - i)
  rw [step]
  by_cases h : i < n
  ·rw [show n - i = n - (i + 1) + 1 by omega, head (i + 1) (n - (i + 1)), Nat.xor_comm (p (i + 1)), ← Nat.xor_assoc, Nat.xor_self, Nat.zero_xor]
  ·rw [show n - (i + 1) = 0 by omega, show n - i = 0 by omega, hn (i + 1) (by omega)]
   simp [xs]
end Go.Proofs.YtlmanliinncdiaaGreat
