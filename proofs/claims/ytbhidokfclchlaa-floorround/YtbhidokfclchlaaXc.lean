/-
  Choices of k of n, one after the other.
-/
import Derived.Test.YtbhidokfclchlaaMath
namespace Go.Proofs.Ytbhidokfclchlaa
/-- k numbers below n, rising. -/
def Inc (q : Nat → Nat) (k n : Nat) : Prop := (∀ i t, i < t → t < k → q i < q t) ∧ ∀ i, i < k → q i < n
/-- The choice as a number. -/
def vl (n : Nat) (q : Nat → Nat) : Nat → Nat
  | 0 => 0
  | k + 1 => vl n q k * n + q k
theorem vl_le {n : Nat} {q s : Nat → Nat} {k : Nat} (h : ∀ i, i < k → q i ≤ s i) : vl n q k ≤ vl n s k := by
  induction k with
  | zero => exact Nat.le_refl _
  | succ k ih => exact Nat.add_le_add (Nat.mul_le_mul_right n (ih (fun i hi => h i (by omega)))) (h k (by omega))
theorem vl_congr {n : Nat} {q s : Nat → Nat} {k : Nat} (h : ∀ i, i < k → q i = s i) : vl n q k = vl n s k :=
  Nat.le_antisymm (vl_le (fun i hi => Nat.le_of_eq (h i hi))) (vl_le (fun i hi => Nat.le_of_eq (h i hi).symm))
theorem vl_lex {n : Nat} {q s : Nat → Nat} {i : Nat} : ∀ {k : Nat}, i < k → (∀ t, t < i → q t = s t) → q i < s i → (∀ t, t < k → q t < n) → vl n q k < vl n s k := by
  intro k
  induction k with
  | zero => intro h; omega
  | succ k ih =>
    intro hi he hl hq
    show vl n q k * n + q k < vl n s k * n + s k
    by_cases e : i = k
    · subst e
      rw [vl_congr he]
      omega
    · have h1 := ih (by omega) he hl (fun t ht => hq t (by omega))
      have h2 := Nat.mul_le_mul_right n (show vl n q k + 1 ≤ vl n s k from h1)
      rw [Nat.add_mul, Nat.one_mul] at h2
      have := hq k (by omega)
      omega
theorem vl_first {n : Nat} {q s : Nat → Nat} : ∀ {k : Nat}, vl n q k < vl n s k → (∀ t, t < k → s t < n) → ∃ i, i < k ∧ (∀ t, t < i → q t = s t) ∧ q i < s i := by
  intro k h hs
  apply Classical.byContradiction
  intro hno
  have step : ∀ m, m ≤ k → (∀ t, t < m → q t = s t) ∨ ∃ i, i < m ∧ (∀ t, t < i → q t = s t) ∧ s i < q i := by
    intro m
    induction m with
    | zero => intro _; exact .inl (fun t ht => by omega)
    | succ m ih =>
      intro hm
      rcases ih (by omega) with h1 | ⟨i, a, b, c⟩
      · rcases Nat.lt_trichotomy (q m) (s m) with h2 | h2 | h2
        · exact absurd ⟨m, by omega, h1, h2⟩ hno
        · refine .inl (fun t ht => ?_)
          by_cases e : t = m
          · rw [e]; exact h2
          · exact h1 t (by omega)
        · exact .inr ⟨m, by omega, h1, h2⟩
      · exact .inr ⟨i, by omega, b, c⟩
  rcases step k (Nat.le_refl _) with h1 | ⟨i, a, b, c⟩
  · rw [vl_congr h1] at h; omega
  · have := vl_lex a (fun t ht => (b t ht).symm) c hs
    omega
theorem vl_same {n : Nat} {q s : Nat → Nat} {k : Nat} (hq : ∀ t, t < k → q t < n) (hs : ∀ t, t < k → s t < n) (h : vl n q k = vl n s k) : ∀ t, t < k → q t = s t := by
  intro t
  induction t using Nat.strongRecOn with
  | ind t ih =>
    intro ht
    rcases Nat.lt_trichotomy (q t) (s t) with h2 | h2 | h2
    · have := vl_lex ht (fun a ha => ih a ha (by omega)) h2 hq; omega
    · exact h2
    · have := vl_lex ht (fun a ha => (ih a ha (by omega)).symm) h2 hs; omega
theorem vl_lt {n : Nat} {q : Nat → Nat} : ∀ {k : Nat}, (∀ t, t < k → q t < n) → vl n q k < n ^ k := by
  intro k
  induction k with
  | zero => intro _; exact Nat.one_pos
  | succ k ih =>
    intro h
    have h1 := ih (fun t ht => h t (by omega))
    have h2 := Nat.mul_le_mul_right n (show vl n q k + 1 ≤ n ^ k from h1)
    rw [Nat.add_mul, Nat.one_mul] at h2
    have := h k (by omega)
    rw [Nat.pow_succ]
    show vl n q k * n + q k < _
    omega
theorem Inc.apart {q : Nat → Nat} {k n : Nat} (h : Inc q k n) {i : Nat} : ∀ d, i + d < k → q i + d ≤ q (i + d) := by
  intro d
  induction d with
  | zero => intro _; exact Nat.le_refl _
  | succ d ih =>
    intro hd
    have h1 := ih (by omega)
    have h2 := h.1 (i + d) (i + (d + 1)) (by omega) hd
    omega
theorem Inc.ge {q : Nat → Nat} {k n : Nat} (h : Inc q k n) {i : Nat} (hi : i < k) : i ≤ q i := by
  have := h.apart (i := 0) i (by omega)
  rw [Nat.zero_add] at this
  omega
theorem Inc.le {q : Nat → Nat} {k n : Nat} (h : Inc q k n) {i : Nat} (hi : i < k) : q i + k ≤ n + i := by
  have h1 := h.apart (i := i) (k - 1 - i) (by omega)
  have h2 := h.2 (i + (k - 1 - i)) (by omega)
  omega
theorem inc_first {k n : Nat} (h : k ≤ n) : Inc (fun i => i) k n := ⟨fun _ _ h _ => h, fun i hi => by show i < n; omega⟩
theorem Inc.first {s : Nat → Nat} {k n : Nat} (h : Inc s k n) : vl n (fun i => i) k ≤ vl n s k := vl_le (fun _ hi => h.ge hi)
theorem Inc.last {q s : Nat → Nat} {k n : Nat} (hs : Inc s k n) (hq : ∀ t, t < k → q t + k = n + t) : vl n s k ≤ vl n q k := vl_le (fun t ht => by have := hs.le ht; have := hq t ht; omega)
theorem vl_le_of {n : Nat} {q s : Nat → Nat} {i k : Nat} (hi : i < k) (he : ∀ t, t < i → s t = q t) (hl : s i ≤ q i) (hs : ∀ t, t < k → s t < n) (ht : ∀ t, i < t → t < k → s t ≤ q t) : vl n s k ≤ vl n q k := by
  by_cases e : s i = q i
  · refine vl_le (fun t htk => ?_)
    rcases Nat.lt_trichotomy t i with h1 | h1 | h1
    · exact Nat.le_of_eq (he t h1)
    · rw [h1]; exact hl
    · exact ht t h1 htk
  · exact Nat.le_of_lt (vl_lex hi he (by omega) hs)
/-- The next one: row i rises by one, and those behind it follow. -/
def nxt (q : Nat → Nat) (i t : Nat) : Nat := if t < i then q t else q i + 1 + (t - i)
theorem Inc.next {q : Nat → Nat} {k n i : Nat} (h : Inc q k n) (hi : i < k) (hl : q i + k < n + i) (hq : ∀ t, i < t → t < k → q t + k = n + t) :
    Inc (nxt q i) k n ∧ vl n q k < vl n (nxt q i) k ∧ ∀ s, Inc s k n → vl n s k < vl n (nxt q i) k → vl n s k ≤ vl n q k := by
  have lo : ∀ t, t < i → nxt q i t = q t := fun t ht => if_pos ht
  have hh : ∀ t, i ≤ t → nxt q i t = q i + 1 + (t - i) := fun t ht => if_neg (by omega)
  have hI : Inc (nxt q i) k n := by
    refine ⟨fun a t hat ht => ?_, fun t ht => ?_⟩
    · by_cases h1 : t < i
      · rw [lo a (by omega), lo t h1]
        exact h.1 a t hat ht
      · rw [hh t (by omega)]
        by_cases h2 : a < i
        · rw [lo a h2]
          have := h.1 a i h2 hi
          omega
        · rw [hh a (by omega)]
          omega
    · by_cases h1 : t < i
      · rw [lo t h1]; exact h.2 t ht
      · rw [hh t (by omega)]
        omega
  refine ⟨hI, vl_lex hi (fun t ht => (lo t ht).symm) (by rw [hh i (Nat.le_refl _)]; omega) h.2, fun s hs hlt => ?_⟩
  obtain ⟨d, hd, he, hsd⟩ := vl_first hlt hI.2
  rcases Nat.lt_trichotomy d i with h1 | h1 | h1
  · exact Nat.le_of_lt (vl_lex hd (fun t ht => by rw [he t ht, lo t (by omega)]) (by rw [lo d h1] at hsd; exact hsd) hs.2)
  · subst h1
    rw [hh d (Nat.le_refl _)] at hsd
    refine vl_le_of (q := q) hd (fun t ht => by rw [he t ht, lo t ht]) (by omega) hs.2 (fun t h1 h2 => ?_)
    have := hs.le h2
    have := hq t h1 h2
    omega
  · rw [hh d (by omega)] at hsd
    have h2 := he i h1
    rw [hh i (Nat.le_refl _)] at h2
    have h3 := hs.apart (i := i) (d - i) (by omega)
    rw [show i + (d - i) = d by omega] at h3
    omega
end Go.Proofs.Ytbhidokfclchlaa
