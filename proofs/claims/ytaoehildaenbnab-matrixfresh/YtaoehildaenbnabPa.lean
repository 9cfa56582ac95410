/-
  The plain mathematics of sums and of polynomials over the field: no Go in sight. A polynomial is the function of its coefficients.
-/
import Derived.Test.YtaoehildaenbnabMath
namespace Go.Proofs.Ytaoehildaenbnab

/-! ### Sums -/
/-- The sum of f 0, .., f (n - 1). -/
def xs (f : Nat → Nat) : Nat → Nat
  | 0 => 0
  | n + 1 => xs f n ^^^ f n
theorem xs_congr {f g : Nat → Nat} {n : Nat} (h : ∀ k, k < n → f k = g k) : xs f n = xs g n := by
  induction n with
  | zero => rfl
  | succ n ih => simp only [xs]; rw [ih (fun k hk => h k (by omega)), h n (by omega)]
theorem xs_zero {f : Nat → Nat} {n : Nat} (h : ∀ k, k < n → f k = 0) : xs f n = 0 := by
  induction n with
  | zero => rfl
  | succ n ih => simp only [xs]; rw [ih (fun k hk => h k (by omega)), h n (by omega)]; rfl
theorem xs_lt {f : Nat → Nat} {n : Nat} (h : ∀ k, k < n → f k < 256) : xs f n < 256 := by
  induction n with
  | zero => simp [xs]
  | succ n ih => exact xor_lt _ _ (ih (fun k hk => h k (by omega))) (h n (by omega))
theorem xs_add (f g : Nat → Nat) (n : Nat) : xs (fun k => f k ^^^ g k) n = xs f n ^^^ xs g n := by
  induction n with
  | zero => simp [xs]
  | succ n ih => simp only [xs]; rw [ih, xor4]
theorem xs_swap (F : Nat → Nat → Nat) (n m : Nat) : xs (fun a => xs (fun b => F a b) m) n = xs (fun b => xs (fun a => F a b) n) m := by
  induction n with
  | zero => exact (xs_zero (fun _ _ => rfl)).symm
  | succ n ih => simp only [xs]; rw [ih, ← xs_add]
theorem xs_one {f : Nat → Nat} {n k0 : Nat} (hk : k0 < n) (h : ∀ k, k < n → k ≠ k0 → f k = 0) : xs f n = f k0 := by
  induction n with
  | zero => omega
  | succ n ih =>
    simp only [xs]
    by_cases e : k0 = n
    · subst e
      rw [xs_zero (fun k hk => h k (by omega) (by omega)), Nat.zero_xor]
    · rw [ih (by omega) (fun k hk => h k (by omega)), h n (by omega) (by omega), Nat.xor_zero]
theorem xs_ext {f : Nat → Nat} {n m : Nat} (hnm : n ≤ m) (h : ∀ k, n ≤ k → k < m → f k = 0) : xs f m = xs f n := by
  induction m with
  | zero => rw [show n = 0 by omega]
  | succ m ih =>
    by_cases e : n = m + 1
    · rw [e]
    · simp only [xs]
      rw [ih (by omega) (fun k h1 h2 => h k h1 (by omega)), h m (by omega) (by omega), Nat.xor_zero]
theorem xs_front (f : Nat → Nat) (n : Nat) : xs f (n + 1) = f 0 ^^^ xs (fun k => f (k + 1)) n := by
  induction n with
  | zero => simp [xs]
  | succ n ih => rw [xs, ih]; simp only [xs]; rw [Nat.xor_assoc]
theorem xs_mul_l (c : Nat) (f : Nat → Nat) (n : Nat) : fm c (xs f n) = xs (fun k => fm c (f k)) n := by
  induction n with
  | zero => exact fm_zero c
  | succ n ih => simp only [xs]; rw [fm_xor, ih]
theorem xs_mul_r (c : Nat) (f : Nat → Nat) (n : Nat) (h : ∀ k, k < n → f k < 256) : fm (xs f n) c = xs (fun k => fm (f k) c) n := by
  induction n with
  | zero => exact zero_fm c
  | succ n ih => simp only [xs]; rw [xor_fm _ _ _ (xs_lt (fun k hk => h k (by omega))) (h n (by omega)), ih (fun k hk => h k (by omega))]
theorem fm_ite (p : Prop) [Decidable p] (a c : Nat) : fm (if p then a else 0) c = if p then fm a c else 0 := by split; rfl; exact zero_fm c
theorem ite_fm (p : Prop) [Decidable p] (a c : Nat) : fm c (if p then a else 0) = if p then fm c a else 0 := by split; rfl; exact fm_zero c
theorem ite_lt (p : Prop) [Decidable p] (a : Nat) (h : a < 256) : (if p then a else 0) < 256 := by split; exact h; decide

/-! ### Products -/
/-- All coefficients are elements. -/
def El (p : Nat → Nat) : Prop := ∀ i, p i < 256
/-- The product of two polynomials. -/
def pm (p q : Nat → Nat) (i : Nat) : Nat := xs (fun k => fm (p k) (q (i - k))) (i + 1)
theorem pm_el {p : Nat → Nat} (q : Nat → Nat) (hp : El p) : El (pm p q) := fun _ => xs_lt (fun k _ => fm_lt _ _ (hp k))
/-- By pairs. -/
theorem pm_pairs (p q : Nat → Nat) (i N : Nat) (h : i < N) : pm p q i = xs (fun a => xs (fun b => if a + b = i then fm (p a) (q b) else 0) N) N := by
  have inner : ∀ a, a < N → xs (fun b => if a + b = i then fm (p a) (q b) else 0) N = if a < i + 1 then fm (p a) (q (i - a)) else 0 := by
    intro a _
    by_cases ha : a < i + 1
    · rw [if_pos ha, xs_one (k0 := i - a) (by omega) (fun k _ hk => if_neg (by omega)), if_pos (by omega)]
    · rw [if_neg ha]
      exact xs_zero (fun k _ => if_neg (by omega))
  rw [xs_congr inner, xs_ext (n := i + 1) (by omega) (fun k h1 _ => if_neg (by omega))]
  unfold pm
  exact xs_congr (fun k hk => by rw [if_pos hk])
theorem pm_comm {p q : Nat → Nat} (hp : El p) (hq : El q) (i : Nat) : pm p q i = pm q p i := by
  rw [pm_pairs p q i (i + 1) (by omega), pm_pairs q p i (i + 1) (by omega), xs_swap]
  refine xs_congr (fun b _ => xs_congr (fun a _ => ?_))
  rw [fm_comm _ _ (hp a) (hq b), Nat.add_comm]
theorem pm_assoc {p q : Nat → Nat} (r : Nat → Nat) (hp : El p) (hq : El q) (i : Nat) : pm (pm p q) r i = pm p (pm q r) i := by
  have N : i < i + 1 := by omega
  -- both sides are the sum over all a, b, c with a + b + c = i
  have L : pm (pm p q) r i = xs (fun c => xs (fun a => xs (fun b => if a + b + c = i then fm (fm (p a) (q b)) (r c) else 0) (i + 1)) (i + 1)) (i + 1) := by
    rw [pm_pairs (pm p q) r i (i + 1) N, xs_swap]
    refine xs_congr (fun c _ => ?_)
    have e : ∀ m, m < i + 1 → (if m + c = i then fm (pm p q m) (r c) else 0) = xs (fun a => xs (fun b => if m + c = i then (if a + b = m then fm (fm (p a) (q b)) (r c) else 0) else 0) (i + 1)) (i + 1) := by
      intro m hm
      by_cases hc : m + c = i
      · simp only [if_pos hc]
        rw [pm_pairs p q m (i + 1) hm, xs_mul_r _ _ _ (fun a _ => xs_lt (fun b _ => ite_lt _ _ (fm_lt _ _ (hp a))))]
        refine xs_congr (fun a _ => ?_)
        rw [xs_mul_r _ _ _ (fun b _ => ite_lt _ _ (fm_lt _ _ (hp a)))]
        exact xs_congr (fun b _ => fm_ite _ _ _)
      · simp only [if_neg hc]
        exact (xs_zero (fun a _ => xs_zero (fun b _ => rfl))).symm
    rw [xs_congr e, xs_swap]
    refine xs_congr (fun a _ => ?_)
    rw [xs_swap]
    refine xs_congr (fun b _ => ?_)
    by_cases h : a + b + c = i
    · rw [if_pos h, xs_one (k0 := a + b) (by omega) (fun m _ hm => by split; exact if_neg (by omega); rfl), if_pos h, if_pos rfl]
    · rw [if_neg h]
      exact xs_zero (fun m _ => by split; exact if_neg (by omega); rfl)
  have R : pm p (pm q r) i = xs (fun a => xs (fun b => xs (fun c => if a + b + c = i then fm (p a) (fm (q b) (r c)) else 0) (i + 1)) (i + 1)) (i + 1) := by
    rw [pm_pairs p (pm q r) i (i + 1) N]
    refine xs_congr (fun a _ => ?_)
    have e : ∀ m, m < i + 1 → (if a + m = i then fm (p a) (pm q r m) else 0) = xs (fun b => xs (fun c => if a + m = i then (if b + c = m then fm (p a) (fm (q b) (r c)) else 0) else 0) (i + 1)) (i + 1) := by
      intro m hm
      by_cases hc : a + m = i
      · simp only [if_pos hc]
        rw [pm_pairs q r m (i + 1) hm, xs_mul_l]
        refine xs_congr (fun b _ => ?_)
        rw [xs_mul_l]
        exact xs_congr (fun c _ => ite_fm _ _ _)
      · simp only [if_neg hc]
        exact (xs_zero (fun a _ => xs_zero (fun b _ => rfl))).symm
    rw [xs_congr e, xs_swap]
    refine xs_congr (fun b _ => ?_)
    rw [xs_swap]
    refine xs_congr (fun c _ => ?_)
    by_cases h : a + b + c = i
    · rw [if_pos h, xs_one (k0 := b + c) (by omega) (fun m _ hm => by split; exact if_neg (by omega); rfl), if_pos (by omega), if_pos rfl]
    · rw [if_neg h]
      exact xs_zero (fun m _ => by split; exact if_neg (by omega); rfl)
  rw [L, R]
  rw [xs_swap]
  refine xs_congr (fun a _ => ?_)
  rw [xs_swap]
  refine xs_congr (fun b _ => xs_congr (fun c _ => ?_))
  rw [fm_assoc _ _ _ (hp a) (hq b)]
/-- The sum of two polynomials. -/
def pa (p q : Nat → Nat) (i : Nat) : Nat := p i ^^^ q i
theorem pa_el {p q : Nat → Nat} (hp : El p) (hq : El q) : El (pa p q) := fun i => xor_lt _ _ (hp i) (hq i)
theorem pm_pa (p q r : Nat → Nat) (i : Nat) : pm p (pa q r) i = pa (pm p q) (pm p r) i := by
  unfold pm pa
  rw [← xs_add]
  exact xs_congr (fun k _ => fm_xor _ _ _)
theorem pa_pm {p q : Nat → Nat} (r : Nat → Nat) (hp : El p) (hq : El q) (i : Nat) : pm (pa p q) r i = pa (pm p r) (pm q r) i := by
  unfold pm pa
  rw [← xs_add]
  exact xs_congr (fun k _ => xor_fm _ _ _ (hp k) (hq k))
end Go.Proofs.Ytaoehildaenbnab
