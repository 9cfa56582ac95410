/-
  Choices of k of n, one after the other.
  How many choices of k of n there are.
  Sets of numbers, each as a number whose bits say what it has: how many there are, which place each has, and which one is next. No Go in sight.
-/
import Derived.Test.YtokdejhbjoglcaaGreatQddes00
set_option maxRecDepth 100000
set_option maxHeartbeats 16000000
namespace Go.Proofs.YtokdejhbjoglcaaGreat
/-- Bit i. -/
def bt (s i : Nat) : Nat := s / 2 ^ i % 2
/-- How many of the lowest l bits are set. -/
def cn : Nat → Nat → Nat
 | _, 0 => 0
 | s, l + 1 => s % 2 + cn (s / 2) l
theorem qdh (s i : Nat) : bt s i < 2 := Nat.mod_lt _ (by decide)
theorem div_up (s i : Nat) : s / 2 ^ i / 2 = s / 2 ^ (i + 1) := by rw [Nat.div_div_eq_div_mul, Nat.pow_succ]
theorem bt_half (s i : Nat) : bt (s / 2) i = bt s (i + 1) := by
 unfold bt
 rw [Nat.div_div_eq_div_mul, Nat.pow_succ, Nat.mul_comm 2]
theorem qbe : ∀ l s, cn s l ≤ l := by
 intro l
 induction l with
 | zero => intro s; exact Nat.le_refl _
 | succ l ih => intro s; have := ih (s / 2); show s % 2 + cn (s / 2) l ≤ _; omega
theorem qas : ∀ l s, cn s (l + 1) = cn s l + bt s l := by
 intro l
 induction l with
 | zero => intro s; show s % 2 + 0 = 0 + s / 2 ^ 0 % 2; rw [Nat.pow_zero, Nat.div_one]; omega
 | succ l ih =>
  intro s
  show s % 2 + cn (s / 2) (l + 1) = s % 2 + cn (s / 2) l + bt s (l + 1)
  rw [ih, bt_half]
  omega
theorem qdr : ∀ i l s, cn s (i + l) = cn s i + cn (s / 2 ^ i) l := by
 intro i
 induction i with
 | zero => intro l s; rw [Nat.zero_add, Nat.pow_zero, Nat.div_one]; show _ = 0 + _; omega
 | succ i ih =>
  intro l s
  rw [show i + 1 + l = (i + l) + 1 by omega]
  show s % 2 + cn (s / 2) (i + l) = s % 2 + cn (s / 2) i + _
  rw [ih, Nat.div_div_eq_div_mul, show 2 * 2 ^ i = 2 ^ (i + 1) from (Nat.pow_succ' ..).symm]
  omega
theorem qdb {s a b : Nat} (h : a ≤ b) : cn s a ≤ cn s b := by
 obtain ⟨d, rfl⟩ : ∃ d, b = a + d := ⟨b - a, by omega⟩
 rw [qdr]
 omega
theorem qkf (s i : Nat) : s % 2 ^ (i + 1) = s % 2 ^ i + 2 ^ i * bt s i := by
 unfold bt
 rw [Nat.pow_succ, Nat.mod_mul]
theorem mod_same : ∀ {s a b : Nat}, a ≤ b → cn s a = cn s b → s % 2 ^ a = s % 2 ^ b := by
 intro s a b h
 obtain ⟨d, rfl⟩ : ∃ d, b = a + d := ⟨b - a, by omega⟩
 clear h
 induction d with
 | zero => intro _; rfl
 | succ d ih =>
  intro e
  rw [← Nat.add_assoc, qas] at e
  have h1 := qdb (s := s) (show a ≤ a + d by omega)
  have h2 : bt s (a + d) = 0 := by omega
  rw [← Nat.add_assoc, qkf, h2, ih (by omega)]
  rfl
/-- Number t of those that s has, as far as they are below i. -/
def lf (s : Nat) : Nat → Nat → Nat
 | 0, _ => 0
 | i + 1, t => if bt s i = 1 ∧ t = cn s i then i else lf s i t
theorem qg4 {s i : Nat} (h : bt s i = 0) (t : Nat) : lf s (i + 1) t = lf s i t := if_neg (by omega)
theorem qkg {s i : Nat} (h : bt s i = 1) (t : Nat) : lf s (i + 1) t = if t = cn s i then i else lf s i t := by
 show (if bt s i = 1 ∧ t = cn s i then i else lf s i t) = _
 by_cases e : t = cn s i
 ·rw [if_pos ⟨h, e⟩, if_pos e]
 ·rw [if_neg (fun a => e a.2), if_neg e]
theorem qae {s : Nat} : ∀ {i t : Nat}, t < cn s i → lf s i t < i ∧ bt s (lf s i t) = 1 ∧ cn s (lf s i t) = t := by
 intro i
 induction i with
 | zero => intro t h; exact absurd h (Nat.not_lt_zero _)
 | succ i ih =>
  intro t h
  rw [qas] at h
  have := qdh s i
  rcases (by omega : bt s i = 1 ∨ bt s i = 0) with e | e
  ·rw [qkg e]
   by_cases ht : t = cn s i
   ·rw [if_pos ht]; exact ⟨by omega, e, ht.symm⟩
   ·rw [if_neg ht]
    obtain ⟨a, b, c⟩ := ih (t := t) (by omega)
    exact ⟨by omega, b, c⟩
  ·rw [qg4 e]
   obtain ⟨a, b, c⟩ := ih (t := t) (by omega)
   exact ⟨by omega, b, c⟩
theorem qfe {s i : Nat} : ∀ d, s < 2 ^ i → cn s (i + d) = cn s i ∧ ∀ t, lf s (i + d) t = lf s i t := by
 intro d
 induction d with
 | zero => intro _; exact ⟨rfl, fun _ => rfl⟩
 | succ d ih =>
  intro h
  obtain ⟨a, b⟩ := ih h
  have e : bt s (i + d) = 0 := by
   unfold bt
   rw [Nat.div_eq_of_lt (Nat.lt_of_lt_of_le h (Nat.pow_le_pow_right (by decide) (by omega)))]
  rw [← Nat.add_assoc]
  exact ⟨by rw [qas, e, a]; rfl, fun t => by rw [qg4 e, b]⟩
theorem or_top {a n : Nat} (h : a < 2 ^ n) : a ||| 2 ^ n = a + 2 ^ n := by
 have h1 := Nat.two_pow_add_eq_or_of_lt h 1
 rw [Nat.mul_one] at h1
 rw [Nat.or_comm, ← h1]
 omega
end Go.Proofs.YtokdejhbjoglcaaGreat
