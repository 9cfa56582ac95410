/-
  How many blocks each domain has; that rows and spreads are even.
-/
import Derived.Test.YtfajmoiffjbcbabK1l
namespace Go.Proofs.Ytfajmoiffjbcbab
/-- How many of the first so many have p. -/
def cnp (p : Nat → Bool) : Nat → Nat
  | 0 => 0
  | k + 1 => cnp p k + if p k then 1 else 0
theorem cnp_le (p : Nat → Bool) : ∀ n, cnp p n ≤ n := by
  intro n
  induction n with
  | zero => exact Nat.le_refl _
  | succ n ih =>
    show cnp p n + (if p n then 1 else 0) ≤ _
    split <;> omega
theorem cnp_congr {p q : Nat → Bool} : ∀ {n : Nat}, (∀ i, i < n → p i = q i) → cnp p n = cnp q n := by
  intro n
  induction n with
  | zero => intro _; rfl
  | succ n ih =>
    intro h
    show cnp p n + (if p n then 1 else 0) = cnp q n + (if q n then 1 else 0)
    rw [ih (fun i hi => h i (by omega)), h n (by omega)]
theorem cn_gst (p : Nat → Bool) (n : Nat) : ∀ l, cn (gst p n) l = cnp p (min l n) := by
  intro l
  induction l with
  | zero => rw [Nat.zero_min]; rfl
  | succ l ih =>
    rw [cn_top, ih, bt_gst]
    by_cases h : l < n
    · rw [show min l n = l by omega, show min (l + 1) n = l + 1 by omega]
      show _ = cnp p l + (if p l then 1 else 0)
      simp [h]
    · rw [show min l n = n by omega, show min (l + 1) n = n by omega, if_neg (by omega), Nat.add_zero]
def smm (f : Nat → Nat) : Nat → Nat
  | 0 => 0
  | d + 1 => smm f d + f d
theorem smm_congr {f g : Nat → Nat} : ∀ {n : Nat}, (∀ i, i < n → f i = g i) → smm f n = smm g n := by
  intro n
  induction n with
  | zero => intro _; rfl
  | succ n ih =>
    intro h
    show smm f n + f n = smm g n + g n
    rw [ih (fun i hi => h i (by omega)), h n (by omega)]
theorem smm_one (f : Nat → Nat) (x : Nat) : ∀ D, smm (fun d => f d + if decide (x = d) then 1 else 0) D = smm f D + if x < D then 1 else 0 := by
  intro D
  induction D with
  | zero => rfl
  | succ D ih =>
    show smm (fun d => f d + if decide (x = d) then 1 else 0) D + (f D + if decide (x = D) then 1 else 0) = smm f D + f D + _
    rw [ih]
    simp only [decide_eq_true_eq]
    split <;> split <;> split <;> omega
theorem smm_zero : ∀ D, smm (fun _ => 0) D = 0 := by
  intro D
  induction D with
  | zero => rfl
  | succ D ih => show smm (fun _ => 0) D + 0 = 0; rw [ih]
/-- All together they are all blocks. -/
theorem smm_all (h : Nat → Nat) (D : Nat) : ∀ B, (∀ b, b < B → h b < D) → smm (fun d => cnp (fun b => decide (h b = d)) B) D = B := by
  intro B
  induction B with
  | zero => intro _; exact smm_zero D
  | succ B ih =>
    intro hh
    have := smm_one (fun d => cnp (fun b => decide (h b = d)) B) (h B) D
    rw [ih (fun b hb => hh b (by omega)), if_pos (hh B (by omega))] at this
    exact this
/-- Rows. -/
theorem cnp_row (D d : Nat) (hd : d < D) : ∀ B, cnp (fun b => decide (b % D = d)) B = B / D + if d < B % D then 1 else 0 := by
  intro B
  induction B with
  | zero => rw [Nat.zero_div, Nat.zero_mod, if_neg (by omega)]; rfl
  | succ B ih =>
    show cnp _ B + (if decide (B % D = d) then 1 else 0) = _
    rw [ih]
    have h1 := Nat.div_add_mod B D
    have hm : B % D < D := Nat.mod_lt _ (by omega)
    by_cases hw : B % D + 1 = D
    · have e : B + 1 = D * (B / D + 1) := by rw [Nat.mul_add, Nat.mul_one]; omega
      have e1 : (B + 1) / D = B / D + 1 := by rw [e, Nat.mul_div_cancel_left _ (by omega)]
      have e2 : (B + 1) % D = 0 := by rw [e, Nat.mul_mod_right]
      rw [e1, e2]
      simp only [decide_eq_true_eq]
      split <;> split <;> split <;> omega
    · have e1 : (B + 1) / D = B / D := by
        rw [show B + 1 = D * (B / D) + (B % D + 1) by omega, Nat.mul_add_div (by omega), Nat.div_eq_of_lt (by omega : B % D + 1 < D), Nat.add_zero]
      have e2 : (B + 1) % D = B % D + 1 := by
        rw [show B + 1 = D * (B / D) + (B % D + 1) by omega, Nat.mul_add_mod, Nat.mod_eq_of_lt (by omega)]
      rw [e1, e2]
      simp only [decide_eq_true_eq]
      split <;> split <;> split <;> omega
/-- Spreads: how many blocks are put ahead of domain e. -/
def uup (B D e : Nat) : Nat := (e * B + (D - 1)) / D
theorem lt_uup {B D e b : Nat} (hD : 0 < D) : b < uup B D e ↔ b * D < e * B := by
  unfold uup
  rw [Nat.lt_iff_add_one_le, Nat.le_div_iff_mul_le hD, Nat.add_mul, Nat.one_mul]
  omega
theorem cnp_ahead (B D e : Nat) (hD : 0 < D) : ∀ n, cnp (fun b => decide (b * D < e * B)) n = min n (uup B D e) := by
  intro n
  induction n with
  | zero => rw [Nat.zero_min]; rfl
  | succ n ih =>
    show cnp _ n + (if decide (n * D < e * B) then 1 else 0) = _
    rw [ih]
    have h := lt_uup (B := B) (D := D) (e := e) (b := n) hD
    by_cases hx : n * D < e * B
    · rw [if_pos (by simp [hx])]
      have := h.2 hx
      omega
    · rw [if_neg (by simp [hx])]
      have : ¬ n < uup B D e := fun hh => hx (h.1 hh)
      omega
theorem cnp_diff {p q r : Nat → Bool} : ∀ n, (∀ b, b < n → (if q b then 1 else 0) = (if p b then 1 else 0) + if r b then 1 else 0) → cnp q n = cnp p n + cnp r n := by
  intro n
  induction n with
  | zero => intro _; rfl
  | succ n ih =>
    intro h
    show cnp q n + (if q n then 1 else 0) = cnp p n + (if p n then 1 else 0) + (cnp r n + if r n then 1 else 0)
    rw [ih (fun b hb => h b (by omega)), h n (by omega)]
    omega
theorem cnp_spread (B D d : Nat) (hB : 0 < B) (hD : 0 < D) (hd : d < D) : cnp (fun b => decide (b * D / B = d)) B + uup B D d = uup B D (d + 1) := by
  have h1 := cnp_ahead B D d hD B
  have h2 := cnp_ahead B D (d + 1) hD B
  have top : ∀ e, e ≤ D → uup B D e ≤ B := by
    intro e he
    refine Nat.le_of_not_lt fun hh => ?_
    have := (lt_uup hD).1 hh
    have h3 : e * B ≤ D * B := Nat.mul_le_mul_right _ he
    rw [Nat.mul_comm B D] at this
    omega
  rw [Nat.min_eq_right (top d (by omega))] at h1
  rw [Nat.min_eq_right (top (d + 1) (by omega))] at h2
  have h3 := cnp_diff (p := fun b => decide (b * D < d * B)) (q := fun b => decide (b * D < (d + 1) * B)) (r := fun b => decide (b * D / B = d)) B (fun b _ => by
    have e1 : (b * D / B = d) ↔ (d * B ≤ b * D ∧ b * D < (d + 1) * B) := by
      rw [Nat.div_eq_iff hB]
      constructor
      · intro h
        rw [Nat.add_mul, Nat.one_mul]
        omega
      · intro h
        rw [Nat.add_mul, Nat.one_mul] at h
        omega
    have e2 : d * B ≤ (d + 1) * B := Nat.mul_le_mul_right _ (by omega)
    by_cases x1 : b * D < d * B
    · have : b * D < (d + 1) * B := by omega
      have x3 : ¬ (b * D / B = d) := fun h => by have := (e1.1 h).1; omega
      simp [x1, this, x3]
    · by_cases x2 : b * D < (d + 1) * B
      · have x3 : b * D / B = d := e1.2 ⟨by omega, x2⟩
        simp [x1, x2, x3]
      · have x3 : ¬ (b * D / B = d) := fun h => x2 (e1.1 h).2
        simp [x1, x2, x3])
  omega
theorem uup_step (B D d : Nat) (hD : 0 < D) : uup B D d + B / D ≤ uup B D (d + 1) ∧ uup B D (d + 1) ≤ uup B D d + B / D + 1 := by
  unfold uup
  obtain ⟨a, ha⟩ : ∃ a, d * B + (D - 1) = a := ⟨_, rfl⟩
  have e : (d + 1) * B + (D - 1) = a + B := by rw [Nat.add_mul, Nat.one_mul]; omega
  rw [e, ha]
  have h1 := Nat.div_add_mod a D
  have h2 := Nat.div_add_mod B D
  have m1 : a % D < D := Nat.mod_lt _ hD
  have m2 : B % D < D := Nat.mod_lt _ hD
  have e2 : a + B = D * (a / D + B / D) + (a % D + B % D) := by rw [Nat.mul_add]; omega
  have e3 : (a + B) / D = a / D + B / D + (a % D + B % D) / D := by
    conv => lhs; rw [e2]
    rw [Nat.mul_add_div hD]
  have e4 : (a % D + B % D) / D ≤ 1 := by
    have : (a % D + B % D) / D < 2 := by rw [Nat.div_lt_iff_lt_mul hD]; omega
    omega
  rw [e3]
  generalize (a % D + B % D) / D = z at e4 ⊢
  generalize a / D = x
  generalize B / D = y
  exact ⟨by omega, by omega⟩
/-- Rows and spreads are even. -/
theorem hm_even {p B D : Nat} {s : Int} {q : Nat → Int} (hp : p = 1 ∨ p = 2) (hB : 0 < B) (hD : 0 < D) {d : Nat} (hd : d < D) : B / D ≤ cnp (fun b => decide (hmv p B D s q b = d)) B ∧ cnp (fun b => decide (hmv p B D s q b = d)) B ≤ B / D + 1 := by
  rcases hp with rfl | rfl
  · have := cnp_row D d hd B
    show B / D ≤ cnp (fun b => decide (b % D = d)) B ∧ cnp (fun b => decide (b % D = d)) B ≤ B / D + 1
    rw [this]
    split <;> omega
  · have h1 := cnp_spread B D d hB hD hd
    have h2 := uup_step B D d hD
    show B / D ≤ cnp (fun b => decide (b * D / B = d)) B ∧ cnp (fun b => decide (b * D / B = d)) B ≤ B / D + 1
    omega
/-- Each home is a domain. -/
theorem hmv_lt {p B D m : Nat} {s : Int} {q : Nat → Int} (ok : okH p B D s m q = true) {b : Nat} (hb : b < B) : hmv p B D s q b < D := by
  unfold okH at ok
  simp only [Bool.and_eq_true, decide_eq_true_eq] at ok
  obtain ⟨o1, o2, o3, o4, o5, o6⟩ := ok
  have hB := sideB_iff.1 o1
  have hD := sideB_iff.1 o2
  rcases (show p = 1 ∨ p = 2 ∨ p = 3 ∨ p = 4 by omega) with rfl | rfl | rfl | rfl
  · exact Nat.mod_lt _ (by omega)
  · show b * D / B < D
    rw [Nat.div_lt_iff_lt_mul (by omega), Nat.mul_comm D B]
    exact Nat.mul_lt_mul_of_pos_right hb (by omega)
  · exact Nat.mod_lt _ (by omega)
  · rw [show listB 4 B D m q = (decide ((m : Int) = B) && alB q D m) from if_pos rfl, Bool.and_eq_true, decide_eq_true_eq, alB_get] at o4
    have := o4.2 b (by omega)
    show (q b).toNat < D
    omega
end Go.Proofs.Ytfajmoiffjbcbab
