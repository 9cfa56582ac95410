/-
  The plain mathematics of sums and of polynomials over the field: no Go in sight. A polynomial is the function of its coefficients.
-/
import Derived.Test.YtblagbghpfopcaaGreatQwwin00
set_option maxRecDepth 100000
set_option maxHeartbeats 16000000
namespace Go.Proofs.YtblagbghpfopcaaGreat

/-! ### Sums -/
/-- The sum of f 0, .., f (n - 1). -/
def xs (f : Nat → Nat) : Nat → Nat
 | 0 => 0
 | n + 1 => xs f n ^^^ f n
theorem qa4 {f g : Nat → Nat} {n : Nat} (h : ∀ k, k < n → f k = g k) : xs f n = xs g n := by
 induction n with
 | zero => rfl
 | succ n ih => simp only [xs]; rw [ih (fun k hk => h k (by omega)), h n (by omega)]
theorem qad {f : Nat → Nat} {n : Nat} (h : ∀ k, k < n → f k = 0) : xs f n = 0 := by
 induction n with
 | zero => rfl
 | succ n ih => simp only [xs]; rw [ih (fun k hk => h k (by omega)), h n (by omega)]; rfl
theorem qh5 {f : Nat → Nat} {n : Nat} (h : ∀ k, k < n → f k < 256) : xs f n < 256 := by
 induction n with
 | zero => simp [xs]
 | succ n ih => exact qbd _ _ (ih (fun k hk => h k (by omega))) (h n (by omega))
theorem qgk (f g : Nat → Nat) (n : Nat) : xs (fun k => f k ^^^ g k) n = xs f n ^^^ xs g n := by
 induction n with
 | zero => simp [xs]
 | succ n ih => simp only [xs]; rw [ih, xor4]
theorem qh6 (F : Nat → Nat → Nat) (n m : Nat) : xs (fun a => xs (fun b => F a b) m) n = xs (fun b => xs (fun a => F a b) n) m := by
 induction n with
 | zero => exact (qad (fun _ _ => rfl)).symm
 | succ n ih => simp only [xs]; rw [ih, ← qgk]
theorem qbe {f : Nat → Nat} {n k0 : Nat} (hk : k0 < n) (h : ∀ k, k < n → k ≠ k0 → f k = 0) : xs f n = f k0 := by
 induction n with
 | zero => omega
 | succ n ih =>
  simp only [xs]
  by_cases e : k0 = n
  ·subst e
   rw [qad (fun k hk => h k (by omega) (by omega)), Nat.zero_xor]
  ·rw [ih (by omega) (fun k hk => h k (by omega)), h n (by omega) (by omega), Nat.xor_zero]
theorem qkl {f : Nat → Nat} {n m : Nat} (hnm : n ≤ m) (h : ∀ k, n ≤ k → k < m → f k = 0) : xs f m = xs f n := by
 induction m with
 | zero => rw [show n = 0 by omega]
 | succ m ih =>
  by_cases e : n = m + 1
  ·rw [e]
  ·simp only [xs]
   rw [ih (by omega) (fun k h1 h2 => h k h1 (by omega)), h m (by omega) (by omega), Nat.xor_zero]
theorem qfp (f : Nat → Nat) (n : Nat) : xs f (n + 1) = f 0 ^^^ xs (fun k => f (k + 1)) n := by
 induction n with
 | zero => simp [xs]
 | succ n ih => rw [xs, ih]; simp only [xs]; rw [Nat.xor_assoc]
theorem qd0 (c : Nat) (f : Nat → Nat) (n : Nat) : fm c (xs f n) = xs (fun k => fm c (f k)) n := by
 induction n with
 | zero => exact qa7 c
 | succ n ih => simp only [xs]; rw [qf3, ih]
theorem qfq (c : Nat) (f : Nat → Nat) (n : Nat) (h : ∀ k, k < n → f k < 256) : fm (xs f n) c = xs (fun k => fm (f k) c) n := by
 induction n with
 | zero => exact qaa c
 | succ n ih => simp only [xs]; rw [xor_fm _ _ _ (qh5 (fun k hk => h k (by omega))) (h n (by omega)), ih (fun k hk => h k (by omega))]
theorem ite_fm (p : Prop) [Decidable p] (a c : Nat) : fm c (if p then a else 0) = if p then fm c a else 0 := by split; rfl; exact qa7 c
theorem ite_lt (p : Prop) [Decidable p] (a : Nat) (h : a < 256) : (if p then a else 0) < 256 := by split; exact h; decide

/-! ### Products -/
/-- All coefficients are elements. -/
def El (p : Nat → Nat) : Prop := ∀ i, p i < 256
/-- The product of two polynomials. -/
def pm (p q : Nat → Nat) (i : Nat) : Nat := xs (fun k => fm (p k) (q (i - k))) (i + 1)
/-- The sum of two polynomials. -/
def pa (p q : Nat → Nat) (i : Nat) : Nat := p i ^^^ q i
end Go.Proofs.YtblagbghpfopcaaGreat
