/-
  Choices of k of n, one after the other.
  How many choices of k of n there are.
  Sets of numbers, each as a number whose bits say what it has: how many there are, which place each has, and which one is next. No Go in sight.
-/
import Derived.Test.YtblagbghpfopcaaGreatQwwin00
set_option maxRecDepth 100000
set_option maxHeartbeats 16000000
namespace Go.Proofs.YtblagbghpfopcaaGreat
/-- The choice as a number. -/
def vl (n : Nat) (q : Nat → Nat) : Nat → Nat
 | 0 => 0
 | k + 1 => vl n q k * n + q k
def bin : Nat → Nat → Nat
 | _, 0 => 1
 | 0, _ + 1 => 0
 | n + 1, k + 1 => bin n (k + 1) + bin n k
theorem qan (n : Nat) : bin n 0 = 1 := by cases n <;> rfl
theorem qfm (k : Nat) : bin 0 (k + 1) = 0 := rfl
theorem qav (n k : Nat) : bin (n + 1) (k + 1) = bin n (k + 1) + bin n k := rfl
theorem qbk : ∀ n k, n < k → bin n k = 0 := by
 intro n
 induction n with
 | zero => intro k h; obtain ⟨j, rfl⟩ : ∃ j, k = j + 1 := ⟨k - 1, by omega⟩; rfl
 | succ n ih =>
  intro k h
  obtain ⟨j, rfl⟩ : ∃ j, k = j + 1 := ⟨k - 1, by omega⟩
  rw [qav, ih _ (by omega), ih _ (by omega)]
theorem qdr : ∀ n, bin n n = 1 := by
 intro n
 induction n with
 | zero => rfl
 | succ n ih => rw [qav, ih, qbk n (n + 1) (by omega)]
theorem bin_pos : ∀ n k, k ≤ n → 0 < bin n k := by
 intro n
 induction n with
 | zero => intro k h; obtain rfl : k = 0 := (by omega); exact Nat.one_pos
 | succ n ih =>
  intro k h
  cases k with
  | zero => exact Nat.one_pos
  | succ k => rw [qav]; have := ih k (by omega); omega
theorem qht : ∀ n k, bin n (k + 1) * (k + 1) = bin n k * (n - k) := by
 intro n
 induction n with
 | zero => intro k; rw [qfm, Nat.zero_mul, Nat.zero_sub, Nat.mul_zero]
 | succ n ih =>
  intro k
  cases k with
  | zero =>
   rw [qav, qan, qan]
   have := ih 0
   rw [qan] at this
   omega
  | succ k =>
   rw [qav, qav n k, Nat.add_mul]
   have h1 := ih (k + 1)
   have h2 := ih k
   rw [h1]
   have h3 : bin n (k + 1) * (k + 1 + 1) = bin n k * (n - k) + bin n (k + 1) := by rw [Nat.mul_add, Nat.mul_one, h2]
   rw [h3, show n + 1 - (k + 1) = n - k by omega, Nat.add_mul]
   by_cases h : k + 1 ≤ n
   ·have : bin n (k + 1) * (n - k) = bin n (k + 1) * (n - (k + 1)) + bin n (k + 1) := by
     rw [show n - k = n - (k + 1) + 1 by omega, Nat.mul_add, Nat.mul_one]
    omega
   ·rw [qbk n (k + 1) (by omega), Nat.zero_mul, Nat.zero_mul]
    omega
theorem bin_symm : ∀ n k, k ≤ n → bin n k = bin n (n - k) := by
 intro n
 induction n with
 | zero => intro k h; obtain rfl : k = 0 := (by omega); rfl
 | succ n ih =>
  intro k h
  cases k with
  | zero => rw [qan, Nat.sub_zero, qdr]
  | succ k =>
   by_cases e : k = n
   ·subst e
    rw [qdr, Nat.sub_self, qan]
   ·rw [show n + 1 - (k + 1) = n - (k + 1) + 1 by omega, qav, qav, ih (k + 1) (by omega), ih k (by omega), show n - k = n - (k + 1) + 1 by omega]
    omega
/-- Bit i. -/
def bt (s i : Nat) : Nat := s / 2 ^ i % 2
/-- How many of the lowest l bits are set. -/
def cn : Nat → Nat → Nat
 | _, 0 => 0
 | s, l + 1 => s % 2 + cn (s / 2) l
theorem qcn (s i : Nat) : bt s i < 2 := Nat.mod_lt _ (by decide)
theorem qcw (s i : Nat) : s / 2 ^ i / 2 = s / 2 ^ (i + 1) := by rw [Nat.div_div_eq_div_mul, Nat.pow_succ]
theorem qe6 (s i : Nat) : bt (s / 2) i = bt s (i + 1) := by
 unfold bt
 rw [Nat.div_div_eq_div_mul, Nat.pow_succ, Nat.mul_comm 2]
theorem qb0 : ∀ l s, cn s l ≤ l := by
 intro l
 induction l with
 | zero => intro s; exact Nat.le_refl _
 | succ l ih => intro s; have := ih (s / 2); show s % 2 + cn (s / 2) l ≤ _; omega
theorem qai : ∀ l s, cn s (l + 1) = cn s l + bt s l := by
 intro l
 induction l with
 | zero => intro s; show s % 2 + 0 = 0 + s / 2 ^ 0 % 2; rw [Nat.pow_zero, Nat.div_one]; omega
 | succ l ih =>
  intro s
  show s % 2 + cn (s / 2) (l + 1) = s % 2 + cn (s / 2) l + bt s (l + 1)
  rw [ih, qe6]
  omega
theorem qds : ∀ i l s, cn s (i + l) = cn s i + cn (s / 2 ^ i) l := by
 intro i
 induction i with
 | zero => intro l s; rw [Nat.zero_add, Nat.pow_zero, Nat.div_one]; show _ = 0 + _; omega
 | succ i ih =>
  intro l s
  rw [show i + 1 + l = (i + l) + 1 by omega]
  show s % 2 + cn (s / 2) (i + l) = s % 2 + cn (s / 2) i + _
  rw [ih, Nat.div_div_eq_div_mul, show 2 * 2 ^ i = 2 ^ (i + 1) from (Nat.pow_succ' ..).symm]
  omega
theorem qk8 : ∀ l, cn 0 l = 0 := by
 intro l
 induction l with
 | zero => rfl
 | succ l ih => show 0 % 2 + cn (0 / 2) l = 0; rw [Nat.zero_div, ih]
theorem qbq {s a b : Nat} (h : a ≤ b) : cn s a ≤ cn s b := by
 obtain ⟨d, rfl⟩ : ∃ d, b = a + d := ⟨b - a, by omega⟩
 rw [qds]
 omega
theorem qk9 (s i : Nat) : s % 2 ^ (i + 1) = s % 2 ^ i + 2 ^ i * bt s i := by
 unfold bt
 rw [Nat.pow_succ, Nat.mod_mul]
theorem mod_same : ∀ {s a b : Nat}, a ≤ b → cn s a = cn s b → s % 2 ^ a = s % 2 ^ b := by
 intro s a b h
 obtain ⟨d, rfl⟩ : ∃ d, b = a + d := ⟨b - a, by omega⟩
 clear h
 induction d with
 | zero => intro _; rfl
 | succ d ih =>
  intro e
  rw [← Nat.add_assoc, qai] at e
  have h1 := qbq (s := s) (show a ≤ a + d by omega)
  have h2 : bt s (a + d) = 0 := by omega
  rw [← Nat.add_assoc, qk9, h2, ih (by omega)]
  rfl
/-- How many sets of l have the least number and m numbers in all, or could. -/
def bw (l : Nat) : Nat → Nat
 | 0 => 0
 | m + 1 => bin l m
theorem qf4 (l m : Nat) : bin (l + 1) m = bin l m + bw l m := by
 cases m with
 | zero => rw [qan, qan]; rfl
 | succ m => rfl
theorem bw_part (l m : Nat) : bin (l + 1) m * m = bw l m * (l + 1) := by
 cases m with
 | zero => show _ * 0 = 0 * _; omega
 | succ m =>
  show _ = bin l m * (l + 1)
  rw [qav, Nat.add_mul, qht]
  by_cases h : m ≤ l
  ·rw [← Nat.mul_add]
   congr 1
   omega
  ·rw [qbk l m (by omega)]
   omega
theorem bw_le (l m : Nat) : bw l m ≤ bin (l + 1) m := by rw [qf4]; omega
/-- How many sets of the size stand ahead of s. -/
def pla : Nat → Nat → Nat
 | _, 0 => 0
 | s, l + 1 => if s % 2 = 1 then pla (s / 2) l else bw l (cn s (l + 1)) + pla (s / 2) l
theorem qb7 {s l : Nat} (h : s % 2 = 1) : pla s (l + 1) = pla (s / 2) l := if_pos h
theorem qaw {s l : Nat} (h : s % 2 = 0) : pla s (l + 1) = bw l (cn s (l + 1)) + pla (s / 2) l := if_neg (by omega)
theorem qby {s l : Nat} (h : s % 2 = 1) : cn s (l + 1) = cn (s / 2) l + 1 := by show s % 2 + _ = _; omega
theorem qbi {s l : Nat} (h : s % 2 = 0) : cn s (l + 1) = cn (s / 2) l := by show s % 2 + _ = _; omega
theorem qhu : ∀ l s, pla s l < bin l (cn s l) := by
 intro l
 induction l with
 | zero => intro s; exact Nat.one_pos
 | succ l ih =>
  intro s
  have h := ih (s / 2)
  rw [qf4]
  rcases (by omega : s % 2 = 1 ∨ s % 2 = 0) with e | e
  ·rw [qb7 e, qby e]
   show _ < _ + bin l (cn (s / 2) l)
   omega
  ·rw [qaw e, qbi e]
   omega
/-- The set of l that has m numbers and this place. -/
def aset : Nat → Nat → Nat → Nat
 | 0, _, _ => 0
 | l + 1, m, p => if p < bw l m then 1 + 2 * aset l (m - 1) p else 2 * aset l m (p - bw l m)
theorem qfn {l m p : Nat} (h : p < bw l m) : aset (l + 1) m p = 1 + 2 * aset l (m - 1) p := if_pos h
theorem qdt {l m p : Nat} (h : ¬ p < bw l m) : aset (l + 1) m p = 2 * aset l m (p - bw l m) := if_neg h
theorem qcx : ∀ l s, s < 2 ^ l → aset l (cn s l) (pla s l) = s := by
 intro l
 induction l with
 | zero => intro s h; rw [Nat.pow_zero] at h; show 0 = s; omega
 | succ l ih =>
  intro s h
  rw [Nat.pow_succ] at h
  have h1 := ih (s / 2) (by omega)
  rcases (by omega : s % 2 = 1 ∨ s % 2 = 0) with e | e
  ·rw [qb7 e, qby e, qfn (qhu l (s / 2)), Nat.add_sub_cancel, h1]
   omega
  ·rw [qaw e, qbi e, qdt (by omega), Nat.add_sub_cancel_left, h1]
   omega
theorem qc8 : ∀ l m p, aset l m p < 2 ^ l := by
 intro l
 induction l with
 | zero => intro m p; exact Nat.one_pos
 | succ l ih =>
  intro m p
  rw [Nat.pow_succ]
  by_cases h : p < bw l m
  ·rw [qfn h]; have := ih (m - 1) p; omega
  ·rw [qdt h]; have := ih m (p - bw l m); omega
theorem qbl : ∀ l m p, p < bin l m → cn (aset l m p) l = m ∧ pla (aset l m p) l = p := by
 intro l
 induction l with
 | zero =>
  intro m p h
  cases m with
  | zero => exact ⟨rfl, by rw [qan] at h; show 0 = p; omega⟩
  | succ m => rw [qfm] at h; omega
 | succ l ih =>
  intro m p h
  by_cases hp : p < bw l m
  ·rw [qfn hp]
   cases m with
   | zero => exact absurd hp (Nat.not_lt_zero _)
   | succ m =>
    obtain ⟨h1, h2⟩ := ih m p hp
    have e : (1 + 2 * aset l m p) % 2 = 1 := by omega
    have e2 : (1 + 2 * aset l m p) / 2 = aset l m p := by omega
    rw [Nat.add_sub_cancel, qby e, qb7 e, e2, h1, h2]
    exact ⟨rfl, rfl⟩
  ·rw [qdt hp]
   rw [qf4] at h
   obtain ⟨h1, h2⟩ := ih m (p - bw l m) (by omega)
   have e : (2 * aset l m (p - bw l m)) % 2 = 0 := by omega
   have e2 : (2 * aset l m (p - bw l m)) / 2 = aset l m (p - bw l m) := by omega
   rw [qaw e, qbi e, e2, h1, h2]
   exact ⟨rfl, by omega⟩
theorem qhv (m : Nat) : (2 ^ (m + 1) - 1) % 2 = 1 ∧ (2 ^ (m + 1) - 1) / 2 = 2 ^ m - 1 := by
 have := Nat.two_pow_pos m
 rw [Nat.pow_succ]
 omega
theorem cn_ones : ∀ l m, m ≤ l → cn (2 ^ m - 1) l = m := by
 intro l
 induction l with
 | zero => intro m h; obtain rfl : m = 0 := (by omega); rfl
 | succ l ih =>
  intro m h
  cases m with
  | zero => exact qk8 _
  | succ m =>
   obtain ⟨h1, h2⟩ := qhv m
   rw [qby h1, h2, ih m (by omega)]
theorem pla_zero : ∀ l, pla 0 l = 0 := by
 intro l
 induction l with
 | zero => rfl
 | succ l ih => rw [qaw (Nat.zero_mod _), qk8, Nat.zero_div, ih]; rfl
theorem pla_ones : ∀ l m, m ≤ l → pla (2 ^ m - 1) l = 0 := by
 intro l
 induction l with
 | zero => intro m h; rfl
 | succ l ih =>
  intro m h
  cases m with
  | zero => exact pla_zero _
  | succ m =>
   obtain ⟨h1, h2⟩ := qhv m
   rw [qb7 h1, h2, ih m (by omega)]
/-- The next set of l of its size. -/
def nx : Nat → Nat → Option Nat
 | _, 0 => none
 | s, l + 1 => match nx (s / 2) l with
  | some u => some (s % 2 + 2 * u)
  | none => if s % 2 = 1 ∧ cn (s / 2) l < l then some (2 * (2 ^ (cn (s / 2) l + 1) - 1)) else none
theorem qka {s l u : Nat} (h : nx (s / 2) l = some u) : nx s (l + 1) = some (s % 2 + 2 * u) := by
 show (match nx (s / 2) l with | some u => _ | none => _) = _
 rw [h]
theorem qkb {s l : Nat} (h : nx (s / 2) l = none) (e : s % 2 = 0) : nx s (l + 1) = none := by
 show (match nx (s / 2) l with | some u => _ | none => _) = _
 rw [h]
 exact if_neg (by omega)
theorem qkc {s l : Nat} (h : nx (s / 2) l = none) (e : ¬ cn (s / 2) l < l) : nx s (l + 1) = none := by
 show (match nx (s / 2) l with | some u => _ | none => _) = _
 rw [h]
 exact if_neg (fun a => e a.2)
theorem qkd {s l : Nat} (h : nx (s / 2) l = none) (e : s % 2 = 1) (e2 : cn (s / 2) l < l) : nx s (l + 1) = some (2 * (2 ^ (cn (s / 2) l + 1) - 1)) := by
 show (match nx (s / 2) l with | some u => _ | none => _) = _
 rw [h]
 exact if_pos ⟨e, e2⟩
theorem nx_pla : ∀ l s, s < 2 ^ l → (nx s l = none → pla s l + 1 = bin l (cn s l)) ∧ ∀ u, nx s l = some u → u < 2 ^ l ∧ cn u l = cn s l ∧ pla u l = pla s l + 1 := by
 intro l
 induction l with
 | zero => intro s h; exact ⟨fun _ => rfl, fun u h => by cases h⟩
 | succ l ih =>
  intro s h
  rw [Nat.pow_succ] at h
  have hc := qb0 l (s / 2)
  obtain ⟨i1, i2⟩ := ih (s / 2) (by omega)
  cases hn : nx (s / 2) l with
  | some v =>
   obtain ⟨a, b, c⟩ := i2 v hn
   rw [qka hn]
   refine ⟨fun h => (by cases h), fun u hu => ?_⟩
   cases hu
   rcases (by omega : s % 2 = 1 ∨ s % 2 = 0) with e | e
   ·have e1 : (s % 2 + 2 * v) % 2 = 1 := by omega
    have e2 : (s % 2 + 2 * v) / 2 = v := by omega
    rw [qby e1, qb7 e1, qby e, qb7 e, e2, b, c, Nat.pow_succ]
    exact ⟨by omega, rfl, rfl⟩
   ·have e1 : (s % 2 + 2 * v) % 2 = 0 := by omega
    have e2 : (s % 2 + 2 * v) / 2 = v := by omega
    rw [qaw e1, qbi e1, qaw e, qbi e, e2, b, c, Nat.pow_succ]
    exact ⟨by omega, rfl, by omega⟩
  | none =>
   have h1 := i1 hn
   rcases (by omega : s % 2 = 1 ∨ s % 2 = 0) with e | e
   ·by_cases hl : cn (s / 2) l < l
    ·rw [qkd hn e hl]
     refine ⟨fun h => (by cases h), fun u hu => ?_⟩
     cases hu
     obtain ⟨c, hcc⟩ : ∃ c, c = cn (s / 2) l := ⟨_, rfl⟩
     rw [← hcc] at h1 hl ⊢
     have e1 : (2 * (2 ^ (c + 1) - 1)) % 2 = 0 := by omega
     have e2 : (2 * (2 ^ (c + 1) - 1)) / 2 = 2 ^ (c + 1) - 1 := by omega
     have e3 := Nat.pow_le_pow_right (n := 2) (by decide) (show c + 1 ≤ l by omega)
     have e4 := Nat.two_pow_pos (c + 1)
     rw [qaw e1, qbi e1, e2, cn_ones l _ (by omega), pla_ones l _ (by omega), qb7 e, qby e, ← hcc, Nat.pow_succ]
     refine ⟨by omega, rfl, ?_⟩
     show bin l c + 0 = _
     omega
    ·rw [qkc hn hl]
     refine ⟨fun _ => ?_, fun u h => by cases h⟩
     have e1 : cn (s / 2) l = l := by omega
     rw [e1, qdr] at h1
     rw [qb7 e, qby e, e1, qdr]
     exact h1
   ·rw [qkb hn e]
    refine ⟨fun _ => ?_, fun u h => by cases h⟩
    rw [qaw e, qbi e, qf4]
    omega
theorem qgi {l m p : Nat} (h : p + 1 < bin l m) : nx (aset l m p) l = some (aset l m (p + 1)) := by
 obtain ⟨a, b⟩ := qbl l m p (by omega)
 obtain ⟨i1, i2⟩ := nx_pla l (aset l m p) (qc8 l m p)
 cases hn : nx (aset l m p) l with
 | none => have := i1 hn; rw [a, b] at this; omega
 | some u =>
  obtain ⟨c, d, e⟩ := i2 u hn
  have := qcx l u c
  rw [d, e, a, b] at this
  exact congrArg some this.symm
theorem qgj {l m p : Nat} (h : p + 1 = bin l m) : nx (aset l m p) l = none := by
 obtain ⟨a, b⟩ := qbl l m p (by omega)
 obtain ⟨i1, i2⟩ := nx_pla l (aset l m p) (qc8 l m p)
 cases hn : nx (aset l m p) l with
 | none => rfl
 | some u =>
  obtain ⟨c, d, e⟩ := i2 u hn
  have := qhu l u
  rw [d, e, a, b] at this
  omega
theorem nx_up : ∀ i s l u, nx (s / 2 ^ i) l = some u → nx s (i + l) = some (s % 2 ^ i + 2 ^ i * u) := by
 intro i
 induction i with
 | zero => intro s l u h; rw [Nat.pow_zero, Nat.div_one] at h; rw [Nat.zero_add, h, Nat.pow_zero, Nat.mod_one]; congr 1; omega
 | succ i ih =>
  intro s l u h
  have h1 := ih (s / 2) l u (by rw [Nat.div_div_eq_div_mul, ← Nat.pow_succ']; exact h)
  rw [show i + 1 + l = (i + l) + 1 by omega, qka h1, Nat.pow_succ', Nat.mod_mul]
  congr 1
  rw [Nat.mul_add, Nat.mul_assoc]
  omega
theorem nx_skip {s i l : Nat} (h : nx (s / 2 ^ (i + 1)) l = none) (e : bt s i = 0) : nx (s / 2 ^ i) (l + 1) = none := qkb (by rw [qcw]; exact h) e
theorem nx_stay {s i l : Nat} (h : nx (s / 2 ^ (i + 1)) l = none) (e : ¬ cn (s / 2 ^ (i + 1)) l < l) : nx (s / 2 ^ i) (l + 1) = none := qkc (by rw [qcw]; exact h) (by rw [qcw]; exact e)
theorem nx_go {s i l c : Nat} (h : nx (s / 2 ^ (i + 1)) l = none) (e : bt s i = 1) (hc : cn (s / 2 ^ (i + 1)) l = c) (e2 : c < l) :
  nx s (i + (l + 1)) = some (s % 2 ^ i + (2 ^ (c + 1) - 1) * 2 ^ (i + 1)) := by
 have h1 := qkd (s := s / 2 ^ i) (l := l) (by rw [qcw]; exact h) e (by rw [qcw, hc]; exact e2)
 rw [qcw, hc] at h1
 rw [nx_up i s (l + 1) _ h1]
 congr 2
 rw [← Nat.mul_assoc, ← Nat.pow_succ, Nat.mul_comm]
/-- Number t of those that s has, as far as they are below i. -/
def lf (s : Nat) : Nat → Nat → Nat
 | 0, _ => 0
 | i + 1, t => if bt s i = 1 ∧ t = cn s i then i else lf s i t
theorem qhw {s i : Nat} (h : bt s i = 0) (t : Nat) : lf s (i + 1) t = lf s i t := if_neg (by omega)
theorem lf_in {s i : Nat} (h : bt s i = 1) (t : Nat) : lf s (i + 1) t = if t = cn s i then i else lf s i t := by
 show (if bt s i = 1 ∧ t = cn s i then i else lf s i t) = _
 by_cases e : t = cn s i
 ·rw [if_pos ⟨h, e⟩, if_pos e]
 ·rw [if_neg (fun a => e a.2), if_neg e]
theorem qal {s : Nat} : ∀ {i t : Nat}, t < cn s i → lf s i t < i ∧ bt s (lf s i t) = 1 ∧ cn s (lf s i t) = t := by
 intro i
 induction i with
 | zero => intro t h; exact absurd h (Nat.not_lt_zero _)
 | succ i ih =>
  intro t h
  rw [qai] at h
  have := qcn s i
  rcases (by omega : bt s i = 1 ∨ bt s i = 0) with e | e
  ·rw [lf_in e]
   by_cases ht : t = cn s i
   ·rw [if_pos ht]; exact ⟨by omega, e, ht.symm⟩
   ·rw [if_neg ht]
    obtain ⟨a, b, c⟩ := ih (t := t) (by omega)
    exact ⟨by omega, b, c⟩
  ·rw [qhw e]
   obtain ⟨a, b, c⟩ := ih (t := t) (by omega)
   exact ⟨by omega, b, c⟩
theorem qe7 {s i : Nat} : ∀ d, s < 2 ^ i → cn s (i + d) = cn s i ∧ ∀ t, lf s (i + d) t = lf s i t := by
 intro d
 induction d with
 | zero => intro _; exact ⟨rfl, fun _ => rfl⟩
 | succ d ih =>
  intro h
  obtain ⟨a, b⟩ := ih h
  have e : bt s (i + d) = 0 := by
   unfold bt
   rw [Nat.div_eq_of_lt (Nat.lt_of_lt_of_le h (Nat.pow_le_pow_right (by decide) (by omega)))]
  rw [← Nat.add_assoc]
  exact ⟨by rw [qai, e, a]; rfl, fun t => by rw [qhw e, b]⟩
theorem qke {a n : Nat} (h : a < 2 ^ n) : a ||| 2 ^ n = a + 2 ^ n := by
 have h1 := Nat.two_pow_add_eq_or_of_lt h 1
 rw [Nat.mul_one] at h1
 rw [Nat.or_comm, ← h1]
 omega
theorem or_high {a n : Nat} (b : Nat) (h : a < 2 ^ n) : a ||| b * 2 ^ n = a + b * 2 ^ n := by
 have h1 := Nat.two_pow_add_eq_or_of_lt h b
 rw [Nat.mul_comm (2 ^ n)] at h1
 rw [Nat.or_comm, ← h1]
 omega
/-- whole times part, divided by parts, the division ahead of the product. -/
theorem qj7 {a b c r : Nat} (hc : 0 < c) (h : a * b = r * c) : a / c * b + a % c * b / c = r := by
 have h1 : a * b = a / c * b * c + a % c * b := by
  have e := Nat.div_add_mod a c
  calc a * b = (c * (a / c) + a % c) * b := by rw [e]
   _ = _ := by rw [Nat.add_mul, Nat.mul_comm c, Nat.mul_right_comm]
 have h2 : a * b / c = a / c * b + a % c * b / c := by
  rw [h1, Nat.mul_comm (a / c * b) c, Nat.mul_add_div hc]
 rw [← h2, h, Nat.mul_div_cancel _ hc]
/-- How many sets of n have fewer than j numbers. -/
def upt6 (n : Nat) : Nat → Nat
 | 0 => 0
 | j + 1 => upt6 n j + bin n j
theorem qkf {n a b : Nat} (h : a ≤ b) : upt6 n a ≤ upt6 n b := by
 obtain ⟨d, rfl⟩ : ∃ d, b = a + d := ⟨b - a, by omega⟩
 clear h
 induction d with
 | zero => exact Nat.le_refl _
 | succ d ih => show _ ≤ upt6 n (a + d) + bin n (a + d); omega
/-- A row of Pascal's triangle. -/
def prw : Nat → List Nat
 | 0 => [1]
 | n + 1 => (fun r => List.zipWith (· + ·) (r ++ [0]) (0 :: r)) (prw n)
theorem prw_len : ∀ n, (prw n).length = n + 1 := by
 intro n
 induction n with
 | zero => rfl
 | succ n ih => simp [prw, ih]
theorem prw_get : ∀ n k, k ≤ n → (prw n)[k]? = some (bin n k) := by
 intro n
 induction n with
 | zero => intro k h; obtain rfl : k = 0 := (by omega); rfl
 | succ n ih =>
  intro k h
  have hl := prw_len n
  show (List.zipWith (· + ·) (prw n ++ [0]) (0 :: prw n))[k]? = _
  rw [List.getElem?_zipWith]
  cases k with
  | zero => rw [List.getElem?_append_left (by omega), ih 0 (by omega)]; simp [qan]
  | succ k =>
   rw [List.getElem?_cons_succ, ih k (by omega), qav]
   by_cases e : k + 1 ≤ n
   ·rw [List.getElem?_append_left (by omega), ih _ e]
   ·rw [List.getElem?_append_right (by omega), qbk n (k + 1) (by omega), show k + 1 - (prw n).length = 0 by omega]
    simp
theorem bin_mono (n k : Nat) : bin n k ≤ bin (n + 1) k := by rw [qf4]; omega
theorem qkg (k : Nat) {a b : Nat} (h : a ≤ b) : bin a k ≤ bin b k := by
 obtain ⟨d, rfl⟩ : ∃ d, b = a + d := ⟨b - a, by omega⟩
 clear h
 induction d with
 | zero => exact Nat.le_refl _
 | succ d ih => exact Nat.le_trans ih (bin_mono _ _)
theorem qkh : (prw 64).all (fun x => Nat.ble x 1832624140942590534) = true := by kernel_rfl
theorem qb8 {n k : Nat} (hn : n ≤ 64) : bin n k ≤ 1832624140942590534 := by
 refine Nat.le_trans (qkg k hn) ?_
 by_cases h : k ≤ 64
 ·have h1 := prw_get 64 k h
  have h2 := List.all_eq_true.mp qkh _ (List.mem_of_getElem? h1)
  exact Nat.le_of_ble_eq_true h2
 ·rw [qbk 64 k (by omega)]
  omega
end Go.Proofs.YtblagbghpfopcaaGreat
