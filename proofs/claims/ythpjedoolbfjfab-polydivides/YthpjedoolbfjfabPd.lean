/-
  Lagrange's polynomials: no Go in sight.
-/
import Derived.Test.YthpjedoolbfjfabPc
namespace Go.Proofs.Ythpjedoolbfjfab
/-- No more than m numbers below m are unlike. -/
theorem pigeon (m : Nat) : ∀ (n : Nat) (f : Nat → Nat), (∀ i, i < n → f i < m) → (∀ i j, i < n → j < n → f i = f j → i = j) → n ≤ m := by
  induction m with
  | zero => intro n f hb _; cases n with
    | zero => exact Nat.le_refl _
    | succ n => exact absurd (hb 0 (by omega)) (by omega)
  | succ m ih =>
    intro n f hb hi
    by_cases h : ∃ i, i < n ∧ f i = m
    · obtain ⟨i0, h0, e0⟩ := h
      have := ih (n - 1) (fun i => if i < i0 then f i else f (i + 1)) (fun i hin => by
        show (if i < i0 then f i else f (i + 1)) < m
        split
        · have h1 := hb i (by omega)
          have h2 : f i ≠ m := fun e => by have := hi i i0 (by omega) h0 (by rw [e, e0]); omega
          omega
        · have h1 := hb (i + 1) (by omega)
          have h2 : f (i + 1) ≠ m := fun e => by have := hi (i + 1) i0 (by omega) h0 (by rw [e, e0]); omega
          omega) (fun i j hin hjn e => by
        have e : (if i < i0 then f i else f (i + 1)) = (if j < i0 then f j else f (j + 1)) := e
        split at e <;> split at e
        · exact hi i j (by omega) (by omega) e
        · have := hi i (j + 1) (by omega) (by omega) e; omega
        · have := hi (i + 1) j (by omega) (by omega) e; omega
        · have := hi (i + 1) (j + 1) (by omega) (by omega) e; omega)
      omega
    · have := ih n f (fun i hin => by
        have h1 := hb i hin
        have h2 : f i ≠ m := fun e => h ⟨i, hin, e⟩
        omega) hi
      omega
/-- a and b times x. -/
def lf (a b i : Nat) : Nat := if i = 0 then a else if i = 1 then b else 0
theorem lf_el {a b : Nat} (ha : a < 256) (hb : b < 256) : El (lf a b) := fun i => by unfold lf; split; exact ha; split; exact hb; decide
theorem lf_above (a b : Nat) : Above 2 (lf a b) := fun i hi => by unfold lf; rw [if_neg (by omega), if_neg (by omega)]
theorem ev_lf (a b x : Nat) (ha : a < 256) (hx : x < 256) : ev (lf a b) 2 x = a ^^^ fm b x := by
  simp only [ev, xs, lf, fpow, Nat.zero_xor]
  simp only [if_true, if_neg (show ¬ 1 = 0 by decide)]
  rw [fm_one a ha, one_fm x hx]
/-- The first k factors of the polynomial that is 1 at the point i, and 0 at all others. -/
def tm (f : Nat → Nat) (i : Nat) : Nat → Nat → Nat
  | 0 => uno
  | k + 1 => if k = i then tm f i k else pm (tm f i k) (lf (fm (f k) (finv (f i ^^^ f k))) (finv (f i ^^^ f k)))
theorem tm_el (f : Nat → Nat) (i : Nat) : ∀ k, El (tm f i k) := by
  intro k
  induction k with
  | zero => exact Po.uno.1
  | succ k ih => simp only [tm]; split; exact ih; exact pm_el _ ih
/-- How many factors there are, and one. -/
def tn (i : Nat) : Nat → Nat
  | 0 => 1
  | k + 1 => if k = i then tn i k else tn i k + 1
theorem tn_le (i k : Nat) : tn i k ≤ k + 1 := by
  induction k with
  | zero => exact Nat.le_refl _
  | succ k ih => simp only [tn]; split <;> omega
theorem tn_eq (i : Nat) : ∀ k, i < k → tn i k = k := by
  intro k
  induction k with
  | zero => intro h; omega
  | succ k ih =>
    intro h
    simp only [tn]
    by_cases e : k = i
    · subst e
      rw [if_pos rfl]
      have : ∀ j, j ≤ k → tn k j = j + 1 := by
        intro j
        induction j with
        | zero => intro _; rfl
        | succ j ihj => intro hj; simp only [tn]; rw [if_neg (by omega), ihj (by omega)]
      exact this k (Nat.le_refl _)
    · rw [if_neg e, ih (by omega)]
theorem tm_above (f : Nat → Nat) (i : Nat) : ∀ k, Above (tn i k) (tm f i k) := by
  intro k
  induction k with
  | zero => exact fun j hj => if_neg (by simp only [tn] at hj; omega)
  | succ k ih =>
    simp only [tm, tn]
    split
    · exact ih
    · exact fun j hj => pm_above ih (lf_above _ _) j (by omega)
theorem tm_ev (f : Nat → Nat) (n i x : Nat) (hf : ∀ j, j < n → f j < 256) (hx : x < 256) (k : Nat) (hk : k < n) (hki : k ≠ i) :
    ev (tm f i (k + 1)) (tn i (k + 1)) x = fm (ev (tm f i k) (tn i k) x) (fm (finv (f i ^^^ f k)) (f k ^^^ x)) := by
  have hd := finv_lt (f i ^^^ f k)
  have ha : fm (f k) (finv (f i ^^^ f k)) < 256 := fm_lt _ _ (hf k hk)
  have e1 : tm f i (k + 1) = pm (tm f i k) (lf (fm (f k) (finv (f i ^^^ f k))) (finv (f i ^^^ f k))) := by simp only [tm]; rw [if_neg hki]
  have e2 : tn i (k + 1) = tn i k + 1 := by simp only [tn]; rw [if_neg hki]
  rw [e1, e2]
  have := ev_pm (x := x) (tm_el f i k) (lf_el ha hd) (tm_above f i k) (lf_above _ _)
  rw [← ev_ext (fun j hj => pm_above (tm_above f i k) (lf_above _ _) j (by omega)) (by omega : tn i k + 1 ≤ tn i k + 2), this, ev_lf _ _ _ ha hx, fm_comm (f k) _ (hf k hk) hd, ← fm_xor]
theorem tm_one (f : Nat → Nat) (n i : Nat) (hf : ∀ j, j < n → f j < 256) (hinj : ∀ a b, a < n → b < n → f a = f b → a = b) (hi : i < n) : ∀ k, k ≤ n → ev (tm f i k) (tn i k) (f i) = 1 := by
  intro k
  induction k with
  | zero => intro _; simp only [tm, tn, ev, xs, fpow]; kernel_rfl
  | succ k ih =>
    intro hk
    by_cases e : k = i
    · simp only [tm, tn]; rw [if_pos e, if_pos e]; exact ih (by omega)
    · rw [tm_ev f n i _ hf (hf i hi) k (by omega) e, ih (by omega)]
      have h0 : f i ^^^ f k ≠ 0 := fun h => e (hinj k i (by omega) hi ((xor_eq_zero_iff _ _).mp h).symm)
      have hl : f i ^^^ f k < 256 := xor_lt _ _ (hf i hi) (hf k (by omega))
      rw [Nat.xor_comm (f k) (f i), fm_comm _ _ (finv_lt _) hl, fm_finv _ hl h0]
      exact one_fm 1 (by decide)
theorem tm_zero (f : Nat → Nat) (n i j : Nat) (hf : ∀ j, j < n → f j < 256) (hj : j < n) (hij : j ≠ i) : ∀ k, k ≤ n → j < k → ev (tm f i k) (tn i k) (f j) = 0 := by
  intro k
  induction k with
  | zero => intro _ h; omega
  | succ k ih =>
    intro hk hjk
    by_cases e : k = i
    · simp only [tm, tn]; rw [if_pos e, if_pos e]; exact ih (by omega) (by omega)
    · rw [tm_ev f n i _ hf (hf j hj) k (by omega) e]
      by_cases e2 : j = k
      · subst e2; rw [Nat.xor_self, fm_zero, fm_zero]
      · rw [ih (by omega) (by omega), zero_fm]
/-- A constant. -/
def kc (c i : Nat) : Nat := if i = 0 then c else 0
theorem kc_el {c : Nat} (h : c < 256) : El (kc c) := fun i => by unfold kc; split; exact h; decide
theorem kc_above (c : Nat) : Above 1 (kc c) := fun i hi => if_neg (by omega)
/-- The sum of the first k terms. -/
def lg_sum (f h : Nat → Nat) (n : Nat) : Nat → Nat → Nat
  | 0 => fun _ => 0
  | k + 1 => pa (lg_sum f h n k) (pm (tm f k n) (kc (h k)))
theorem lsum_el (f h : Nat → Nat) (n : Nat) : ∀ k, El (lg_sum f h n k) := by
  intro k
  induction k with
  | zero => exact fun _ => (by decide : 0 < 256)
  | succ k ih => exact pa_el ih (pm_el _ (tm_el f k n))
theorem lsum_above (f h : Nat → Nat) (n : Nat) : ∀ k, k ≤ n → Above n (lg_sum f h n k) := by
  intro k
  induction k with
  | zero => intro _ i _; rfl
  | succ k ih =>
    intro hk
    refine (ih (by omega)).pa ?_
    have := tm_above f k n
    rw [tn_eq k n (by omega)] at this
    exact fun i hi => pm_above this (kc_above _) i (by omega)
theorem lsum_ev (f h : Nat → Nat) (n j : Nat) (hf : ∀ j, j < n → f j < 256) (hh : ∀ j, j < n → h j < 256) (hinj : ∀ a b, a < n → b < n → f a = f b → a = b) (hj : j < n) : ∀ k, k ≤ n → ev (lg_sum f h n k) n (f j) = if j < k then h j else 0 := by
  intro k
  induction k with
  | zero => intro _; rw [if_neg (by omega)]; exact xs_zero (fun _ _ => zero_fm _)
  | succ k ih =>
    intro hk
    have hkn : k < n := by omega
    have ab := tm_above f k n
    rw [tn_eq k n hkn] at ab
    show ev (pa (lg_sum f h n k) (pm (tm f k n) (kc (h k)))) n (f j) = _
    rw [ev_pa (lsum_el f h n k) (pm_el _ (tm_el f k n)), ih (by omega)]
    have e : ev (pm (tm f k n) (kc (h k))) n (f j) = fm (ev (tm f k n) n (f j)) (h k) := by
      have := ev_pm (x := f j) (tm_el f k n) (kc_el (hh k hkn)) ab (kc_above _)
      rw [ev_ext (n := n) (fun i hi => pm_above ab (kc_above _) i (by omega)) (by omega)] at this
      rw [this]
      congr 1
      simp only [ev, xs, kc, fpow, Nat.zero_xor]
      exact fm_one _ (hh k hkn)
    rw [e]
    by_cases e2 : j = k
    · subst e2
      have := tm_one f n j hf hinj hj n (Nat.le_refl _)
      rw [tn_eq j n hj] at this
      rw [this, if_neg (by omega), if_pos (by omega), Nat.zero_xor, one_fm _ (hh j hj)]
    · have := tm_zero f n k j hf hj e2 n (Nat.le_refl _) hj
      rw [tn_eq k n hkn] at this
      rw [this, zero_fm, Nat.xor_zero]
      by_cases e3 : j < k
      · rw [if_pos e3, if_pos (by omega)]
      · rw [if_neg e3, if_neg (by omega)]
/-- Two polynomials of n coefficients that are alike at n unlike points are one. -/
theorem same_points {p q : Nat → Nat} {n : Nat} {f : Nat → Nat} (hp : El p) (hq : El q) (ap : Above n p) (aq : Above n q) (hf : ∀ j, j < n → f j < 256) (hinj : ∀ a b, a < n → b < n → f a = f b → a = b) (h : ∀ j, j < n → ev p n (f j) = ev q n (f j)) : ∀ i, p i = q i := by
  have := roots_zero n (pa p q) f (pa_el hp hq) (ap.pa aq) hf hinj (fun k hk => by rw [ev_pa hp hq, h k hk, Nat.xor_self])
  exact fun i => (xor_eq_zero_iff _ _).mp (this i)
end Go.Proofs.Ythpjedoolbfjfab
