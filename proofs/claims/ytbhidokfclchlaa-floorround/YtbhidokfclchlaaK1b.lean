/-
  The spiral: its cells, one behind the other; sets by a rule.
-/
import Derived.Test.YtbhidokfclchlaaK1a
import Derived.Test.YtbhidokfclchlaaJc
namespace Go.Proofs.Ytbhidokfclchlaa
/-- Where the walk stands: the cell's parts, the step's parts, the side, the steps left on it. -/
structure Stp where
  x : Int
  y : Int
  dx : Int
  dy : Int
  sd : Nat
  lf : Nat
def Stp.go (s : Stp) : Stp :=
  if s.lf = 1 then ⟨s.x + s.dx, s.y + s.dy, -s.dy, s.dx, s.sd + 1, (s.sd + 1) / 2 + 1⟩ else ⟨s.x + s.dx, s.y + s.dy, s.dx, s.dy, s.sd, s.lf - 1⟩
def spl : Nat → Stp
  | 0 => ⟨0, 0, 1, 0, 0, 1⟩
  | k + 1 => (spl k).go
def splR : Nat → Stp → List Stp
  | 0, _ => []
  | n + 1, s => s :: splR n s.go
theorem splR_get : ∀ n k j, j < n → (splR n (spl k))[j]? = some (spl (k + j)) := by
  intro n
  induction n with
  | zero => intro k j h; omega
  | succ n ih =>
    intro k j h
    cases j with
    | zero => rfl
    | succ j =>
      show (splR n (spl (k + 1)))[j]? = _
      rw [ih (k + 1) j (by omega)]
      congr 2
      omega
def Stp.fit (s : Stp) : Bool := decide (-5 ≤ s.x) && decide (s.x ≤ 5) && decide (-5 ≤ s.y) && decide (s.y ≤ 5) && decide (-1 ≤ s.dx) && decide (s.dx ≤ 1) && decide (-1 ≤ s.dy) && decide (s.dy ≤ 1) && decide (s.sd ≤ 20) && decide (1 ≤ s.lf) && decide (s.lf ≤ 20)
theorem spl_fit_all : (splR 66 (spl 0)).all Stp.fit = true := by decide +kernel
theorem spl_fit {k : Nat} (h : k ≤ 65) : (-5 ≤ (spl k).x ∧ (spl k).x ≤ 5) ∧ (-5 ≤ (spl k).y ∧ (spl k).y ≤ 5) ∧ (-1 ≤ (spl k).dx ∧ (spl k).dx ≤ 1) ∧ (-1 ≤ (spl k).dy ∧ (spl k).dy ≤ 1) ∧ (spl k).sd ≤ 20 ∧ 1 ≤ (spl k).lf ∧ (spl k).lf ≤ 20 := by
  have e := splR_get 66 0 k (by omega)
  rw [Nat.zero_add] at e
  have := List.all_eq_true.1 spl_fit_all (spl k) (List.mem_of_getElem? e)
  simp only [Stp.fit, Bool.and_eq_true, decide_eq_true_eq] at this
  omega
/-- One apart from the one ahead. -/
def nxtOk : List Stp → Bool
  | a :: b :: l => decide ((a.x - b.x).natAbs + (a.y - b.y).natAbs = 1) && nxtOk (b :: l)
  | _ => true
theorem spl_nxt_all : nxtOk (splR 66 (spl 0)) = true := by decide +kernel
theorem nxtOk_get : ∀ (l : List Stp) (j : Nat) (a b : Stp), nxtOk l = true → l[j]? = some a → l[j + 1]? = some b → (a.x - b.x).natAbs + (a.y - b.y).natAbs = 1 := by
  intro l
  induction l with
  | nil => intro j a b _ h; simp at h
  | cons c l ih =>
    intro j a b hn h1 h2
    cases l with
    | nil => simp at h2
    | cons d l =>
      simp only [nxtOk, Bool.and_eq_true, decide_eq_true_eq] at hn
      cases j with
      | zero => simp at h1 h2; subst h1; subst h2; exact hn.1
      | succ j => exact ih j a b hn.2 (by simpa using h1) (by simpa using h2)
theorem spl_nxt {k : Nat} (h : k ≤ 64) : ((spl k).x - (spl (k + 1)).x).natAbs + ((spl k).y - (spl (k + 1)).y).natAbs = 1 := by
  have e1 := splR_get 66 0 k (by omega)
  have e2 := splR_get 66 0 (k + 1) (by omega)
  rw [Nat.zero_add] at e1 e2
  exact nxtOk_get _ k _ _ spl_nxt_all e1 e2
/-- None is met twice. -/
def onceOk : List Stp → Bool
  | [] => true
  | a :: l => l.all (fun b => !(decide (a.x = b.x) && decide (a.y = b.y))) && onceOk l
theorem spl_once_all : onceOk (splR 64 (spl 0)) = true := by decide +kernel
theorem onceOk_get : ∀ (l : List Stp) (i j : Nat) (a b : Stp), onceOk l = true → i < j → l[i]? = some a → l[j]? = some b → ¬ (a.x = b.x ∧ a.y = b.y) := by
  intro l
  induction l with
  | nil => intro i j a b _ _ h; simp at h
  | cons c l ih =>
    intro i j a b hn hij h1 h2
    simp only [onceOk, Bool.and_eq_true] at hn
    cases j with
    | zero => omega
    | succ j =>
      cases i with
      | zero =>
        simp at h1 h2
        subst h1
        have := List.all_eq_true.1 hn.1 b (List.mem_of_getElem? h2)
        intro e
        simp [e.1, e.2] at this
      | succ i => exact ih i j a b hn.2 (by omega) (by simpa using h1) (by simpa using h2)
theorem spl_once {i j : Nat} (hi : i < 64) (hj : j < 64) (hx : (spl i).x = (spl j).x) (hy : (spl i).y = (spl j).y) : i = j := by
  have e1 := splR_get 64 0 i hi
  have e2 := splR_get 64 0 j hj
  rw [Nat.zero_add] at e1 e2
  by_cases h : i < j
  · exact absurd ⟨hx, hy⟩ (onceOk_get _ i j _ _ spl_once_all h e1 e2)
  · by_cases h' : j < i
    · exact absurd ⟨hx.symm, hy.symm⟩ (onceOk_get _ j i _ _ spl_once_all h' e2 e1)
    · omega
/-- The set of the places below n that have p. -/
def gst (p : Nat → Bool) : Nat → Nat
  | 0 => 0
  | n + 1 => gst p n + if p n then 2 ^ n else 0
theorem gst_lt (p : Nat → Bool) : ∀ n, gst p n < 2 ^ n := by
  intro n
  induction n with
  | zero => exact Nat.one_pos
  | succ n ih =>
    show gst p n + (if p n then 2 ^ n else 0) < _
    rw [Nat.pow_succ]
    split <;> omega
theorem gst_in {p : Nat → Bool} {n : Nat} (h : p n = true) : gst p n ||| 2 ^ n = gst p (n + 1) := by
  rw [or_top (gst_lt p n)]
  show _ = gst p n + (if p n then 2 ^ n else 0)
  rw [if_pos h]
theorem gst_out {p : Nat → Bool} {n : Nat} (h : p n = false) : gst p n = gst p (n + 1) := by
  show _ = gst p n + (if p n then 2 ^ n else 0)
  rw [if_neg (by simp [h])]
  rfl
theorem gst_64 (p : Nat → Bool) {n : Nat} (h : n ≤ 64) : gst p n < 18446744073709551616 :=
  Nat.lt_of_lt_of_le (gst_lt p n) (Nat.pow_le_pow_right (n := 2) (by decide) h)
theorem gst_congr {p q : Nat → Bool} : ∀ {n : Nat}, (∀ i, i < n → p i = q i) → gst p n = gst q n := by
  intro n
  induction n with
  | zero => intro _; rfl
  | succ n ih =>
    intro h
    show gst p n + (if p n then 2 ^ n else 0) = gst q n + (if q n then 2 ^ n else 0)
    rw [ih (fun i hi => h i (by omega)), h n (by omega)]
/-- The step of a loop that gathers a set. -/
theorem gst_or {p : Nat → Bool} {n : Nat} {z z' T : Nat} (hn : n < 64) (h : p n = true) (hz : gst p n = z) (hz' : gst p (n + 1) = z') (hT : 2 ^ n = T) : bits .or .u64 (z : Int) (T : Int) = (z' : Int) := by
  have := gst_64 p (n := n) (by omega)
  have := j_pow_lt hn
  rw [u64_or_nat z T (by omega) (by omega), ← hz, ← hT, gst_in h, hz']
theorem bt_gst {p : Nat → Bool} : ∀ {n i : Nat}, bt (gst p n) i = if i < n ∧ p i = true then 1 else 0 := by
  intro n
  induction n with
  | zero => intro i; show 0 / 2 ^ i % 2 = _; rw [Nat.zero_div, if_neg (by omega)]
  | succ n ih =>
    intro i
    show (gst p n + (if p n then 2 ^ n else 0)) / 2 ^ i % 2 = _
    have hl := gst_lt p n
    by_cases hp : p n = true
    · rw [if_pos hp]
      by_cases h1 : i < n
      · obtain ⟨d, rfl⟩ : ∃ d, n = i + 1 + d := ⟨n - i - 1, by omega⟩
        rw [show 2 ^ (i + 1 + d) = 2 ^ i * (2 * 2 ^ d) by rw [Nat.pow_add, Nat.pow_succ, Nat.mul_assoc], Nat.add_mul_div_left _ _ (Nat.two_pow_pos i), Nat.add_mul_mod_self_left]
        have := ih (i := i)
        unfold bt at this
        rw [this]
        simp [show i < i + 1 + d by omega, show i < i + 1 + d + 1 by omega]
      · by_cases h2 : i = n
        · subst h2
          rw [Nat.add_div_right _ (Nat.two_pow_pos i), Nat.div_eq_of_lt hl, if_pos ⟨by omega, hp⟩]
        · rw [Nat.div_eq_of_lt, if_neg (by omega)]
          have : 2 ^ (n + 1) ≤ 2 ^ i := Nat.pow_le_pow_right (by decide) (by omega)
          rw [Nat.pow_succ] at this
          omega
    · rw [if_neg hp]
      have := ih (i := i)
      unfold bt at this
      rw [Nat.add_zero, this]
      by_cases h2 : i = n
      · subst h2; simp [hp]
      · simp only [show (i < n + 1) ↔ i < n from ⟨fun _ => by omega, fun _ => by omega⟩]
end Go.Proofs.Ytbhidokfclchlaa
