/-
  Degrees, values, roots and divisors of polynomials: no Go in sight.
-/
import Derived.Test.YthpjedoolbfjfabPa
namespace Go.Proofs.Ythpjedoolbfjfab

/-- No coefficient from n on. -/
def Above (n : Nat) (p : Nat → Nat) : Prop := ∀ i, n ≤ i → p i = 0
theorem Above.mono {n m : Nat} {p : Nat → Nat} (h : Above n p) (hnm : n ≤ m) : Above m p := fun i hi => h i (by omega)
theorem Above.pa {n : Nat} {p q : Nat → Nat} (hp : Above n p) (hq : Above n q) : Above n (pa p q) := fun i hi => by
  show p i ^^^ q i = 0
  rw [hp i hi, hq i hi]; rfl
theorem pm_above {n m : Nat} {p q : Nat → Nat} (hp : Above n p) (hq : Above m q) (i : Nat) (hi : n + m ≤ i + 1) : pm p q i = 0 := by
  refine xs_zero (fun k _ => ?_)
  by_cases h : n ≤ k
  · rw [hp k h, zero_fm]
  · rw [hq (i - k) (by omega), fm_zero]
theorem Above.pm {n m : Nat} {p q : Nat → Nat} (hp : Above n p) (hq : Above m q) : Above (n + m) (pm p q) := fun i hi => pm_above hp hq i (by omega)
theorem pm_top {n m : Nat} {p q : Nat → Nat} (hp : Above (n + 1) p) (hq : Above (m + 1) q) : pm p q (n + m) = fm (p n) (q m) := by
  unfold Go.Proofs.Ythpjedoolbfjfab.pm
  rw [xs_one (k0 := n) (by omega) (fun k _ hk => ?_)]
  · rw [show n + m - n = m by omega]
  · by_cases h : n < k
    · rw [hp k (by omega), zero_fm]
    · rw [hq (n + m - k) (by omega), fm_zero]
theorem top_exists {N : Nat} {p : Nat → Nat} (h : Above N p) : (∀ i, p i = 0) ∨ ∃ n, n < N ∧ p n ≠ 0 ∧ Above (n + 1) p := by
  induction N with
  | zero => exact .inl (fun i => h i (by omega))
  | succ N ih =>
    by_cases e : p N = 0
    · have h' : Above N p := fun i hi => by
        by_cases ei : i = N
        · rw [ei]; exact e
        · exact h i (by omega)
      rcases ih h' with h0 | ⟨n, hn, h1, h2⟩
      · exact .inl h0
      · exact .inr ⟨n, by omega, h1, h2⟩
    · exact .inr ⟨N, by omega, e, h⟩
theorem xor_eq_zero_iff (a b : Nat) : a ^^^ b = 0 ↔ a = b := by
  constructor
  · intro h
    have : a ^^^ b ^^^ b = 0 ^^^ b := by rw [h]
    rw [Nat.xor_assoc, Nat.xor_self, Nat.xor_zero, Nat.zero_xor] at this
    exact this
  · rintro rfl; exact Nat.xor_self a
/-- A product with q, whose highest coefficient stands at m, reaches m only if the factor is 0. -/
theorem pm_low {N m : Nat} {e q : Nat → Nat} (he : El e) (hq : El q) (hN : Above N e) (hm : Above (m + 1) q) (h0 : q m ≠ 0) (h : ∀ i, m ≤ i → pm e q i = 0) : ∀ i, e i = 0 := by
  rcases top_exists hN with h1 | ⟨n, _, h1, h2⟩
  · exact h1
  · have := h (n + m) (by omega)
    rw [pm_top h2 hm, fm_eq_zero _ _ (he n) (hq m)] at this
    rcases this with h3 | h3
    · exact absurd h3 h1
    · exact absurd h3 h0
/-- Quotient and remainder are the only ones. -/
theorem div_unique {N m : Nat} {a c q b d : Nat → Nat} (ha : El a) (hc : El c) (hq : El q) (hNa : Above N a) (hNc : Above N c) (hm : Above (m + 1) q) (h0 : q m ≠ 0) (hb : Above m b) (hd : Above m d)
    (h : ∀ i, pa (pm a q) b i = pa (pm c q) d i) : (∀ i, a i = c i) ∧ ∀ i, b i = d i := by
  have key : ∀ i, pm (pa a c) q i = b i ^^^ d i := by
    intro i
    rw [pa_pm q ha hc]
    have hi := h i
    unfold pa at *
    have : pm a q i ^^^ b i ^^^ (pm c q i ^^^ b i) = pm c q i ^^^ d i ^^^ (pm c q i ^^^ b i) := by rw [hi]
    rw [xor4, Nat.xor_self, Nat.xor_zero, xor4, Nat.xor_self, Nat.zero_xor, Nat.xor_comm (d i)] at this
    exact this
  have hz := pm_low (pa_el ha hc) hq (hNa.pa hNc) hm h0 (fun i hi => by rw [key i, hb i hi, hd i hi]; rfl)
  have hac : ∀ i, a i = c i := fun i => (xor_eq_zero_iff _ _).mp (hz i)
  refine ⟨hac, fun i => ?_⟩
  have k := key i
  have z : pm (pa a c) q i = 0 := xs_zero (fun k _ => by rw [hz k, zero_fm])
  rw [z] at k
  exact (xor_eq_zero_iff _ _).mp k.symm

/-! ### Values -/
theorem fpow_add (x a b : Nat) : fpow x (a + b) = fm (fpow x a) (fpow x b) := by
  induction b with
  | zero => rw [Nat.add_zero]; simp only [fpow]; rw [fm_one _ (fpow_lt x a)]
  | succ b ih => rw [← Nat.add_assoc]; simp only [fpow]; rw [ih, fm_assoc _ _ _ (fpow_lt x a) (fpow_lt x b)]
/-- The value of a polynomial of n coefficients at x. -/
def ev (p : Nat → Nat) (n x : Nat) : Nat := xs (fun i => fm (p i) (fpow x i)) n
theorem ev_lt {p : Nat → Nat} (hp : El p) (n x : Nat) : ev p n x < 256 := xs_lt (fun k _ => fm_lt _ _ (hp k))
theorem ev_ext {p : Nat → Nat} {n m : Nat} (hp : Above n p) (h : n ≤ m) (x : Nat) : ev p m x = ev p n x :=
  xs_ext h (fun k h1 _ => by rw [hp k h1, zero_fm])
theorem ev_congr {p q : Nat → Nat} {n : Nat} (h : ∀ i, i < n → p i = q i) (x : Nat) : ev p n x = ev q n x := xs_congr (fun k hk => by rw [h k hk])
theorem ev_pa {p q : Nat → Nat} (hp : El p) (hq : El q) (n x : Nat) : ev (pa p q) n x = ev p n x ^^^ ev q n x := by
  unfold ev
  rw [← xs_add]
  exact xs_congr (fun k _ => xor_fm _ _ _ (hp k) (hq k))
theorem ev_pm {p q : Nat → Nat} {n m x : Nat} (hp : El p) (hq : El q) (hn : Above n p) (hm : Above m q) : ev (pm p q) (n + m) x = fm (ev p n x) (ev q m x) := by
  have e1 : ev (pm p q) (n + m) x = xs (fun i => xs (fun a => xs (fun b => if a + b = i then fm (fm (p a) (q b)) (fpow x i) else 0) (n + m)) (n + m)) (n + m) := by
    refine xs_congr (fun i hi => ?_)
    rw [pm_pairs p q i (n + m) hi, xs_mul_r _ _ _ (fun a _ => xs_lt (fun b _ => ite_lt _ _ (fm_lt _ _ (hp a))))]
    refine xs_congr (fun a _ => ?_)
    rw [xs_mul_r _ _ _ (fun b _ => ite_lt _ _ (fm_lt _ _ (hp a)))]
    exact xs_congr (fun b _ => fm_ite _ _ _)
  rw [e1, xs_swap]
  have e2 : ∀ a, a < n + m → xs (fun i => xs (fun b => if a + b = i then fm (fm (p a) (q b)) (fpow x i) else 0) (n + m)) (n + m) = xs (fun b => fm (fm (p a) (fpow x a)) (fm (q b) (fpow x b))) (n + m) := by
    intro a ha
    rw [xs_swap]
    refine xs_congr (fun b hb => ?_)
    by_cases h : a + b < n + m
    · rw [xs_one (k0 := a + b) h (fun i _ hi => if_neg (by omega)), if_pos rfl, fpow_add x a b]
      rw [fm_assoc _ _ _ (hp a) (hq b), fm_assoc _ _ _ (hp a) (fpow_lt x a)]
      rw [← fm_assoc (q b) _ _ (hq b) (fpow_lt x a), fm_comm (q b) _ (hq b) (fpow_lt x a), fm_assoc _ _ _ (fpow_lt x a) (hq b)]
    · rw [xs_zero (fun i hi => if_neg (by omega))]
      by_cases h2 : n ≤ a
      · rw [hn a h2, zero_fm, zero_fm]
      · rw [hm b (by omega), zero_fm, fm_zero]
  rw [xs_congr e2]
  rw [← ev_ext hn (by omega : n ≤ n + m) x, ← ev_ext hm (by omega : m ≤ n + m) x]
  unfold ev
  rw [xs_mul_r _ _ _ (fun k _ => fm_lt _ _ (hp k))]
  exact xs_congr (fun a _ => (xs_mul_l _ _ _).symm)

/-! ### Roots -/
/-- x and r. -/
def lin (r : Nat) (i : Nat) : Nat := if i = 0 then r else if i = 1 then 1 else 0
theorem lin_el {r : Nat} (h : r < 256) : El (lin r) := fun i => by unfold lin; split; exact h; split <;> decide
theorem lin_above (r : Nat) : Above 2 (lin r) := fun i hi => by unfold lin; rw [if_neg (by omega), if_neg (by omega)]
theorem ev_lin (r x : Nat) (hr : r < 256) (hx : x < 256) : ev (lin r) 2 x = r ^^^ x := by
  simp only [ev, xs, lin, fpow, Nat.zero_xor]
  simp only [if_true, if_neg (show ¬ 1 = 0 by decide)]
  rw [fm_one r hr, one_fm x hx, one_fm x hx]
theorem lin_pm (r : Nat) (q : Nat → Nat) (hq : El q) : (∀ i, pm (lin r) q (i + 1) = fm r (q (i + 1)) ^^^ q i) ∧ pm (lin r) q 0 = fm r (q 0) := by
  constructor
  · intro i
    have z : xs (fun k => fm (lin r (k + 1 + 1)) (q (i + 1 - (k + 1 + 1)))) i = 0 := xs_zero (fun k _ => by
      rw [show lin r (k + 1 + 1) = 0 from lin_above r _ (by omega), zero_fm])
    unfold pm
    rw [xs_front, xs_front, z, Nat.xor_zero]
    show fm (lin r 0) (q (i + 1 - 0)) ^^^ fm (lin r 1) (q (i + 1 - 1)) = _
    rw [show lin r 0 = r from rfl, show lin r 1 = 1 from rfl, Nat.sub_zero, Nat.add_sub_cancel, one_fm _ (hq i)]
  · simp only [pm, xs, Nat.zero_xor]
    rfl
/-- A root splits off a factor. -/
theorem factor {n : Nat} {p : Nat → Nat} {r : Nat} (hp : El p) (hr : r < 256) (hn : Above (n + 1) p) (h0 : ev p (n + 1) r = 0) : ∃ q, El q ∧ Above n q ∧ ∀ i, p i = pm (lin r) q i := by
  -- q i: the sum of p (i + 1 + j) times r to the power j
  refine ⟨fun i => xs (fun j => fm (p (i + 1 + j)) (fpow r j)) (n - i), fun i => xs_lt (fun k _ => fm_lt _ _ (hp _)), fun i hi => by show xs _ (n - i) = 0; rw [show n - i = 0 by omega]; rfl, ?_⟩
  have hel : El (fun i => xs (fun j => fm (p (i + 1 + j)) (fpow r j)) (n - i)) := fun i => xs_lt (fun k _ => fm_lt _ _ (hp _))
  have step : ∀ i k, fm r (xs (fun j => fm (p (i + 1 + j)) (fpow r j)) k) = xs (fun j => fm (p (i + 1 + j)) (fpow r (j + 1))) k := by
    intro i k
    rw [xs_mul_l]
    refine xs_congr (fun j _ => ?_)
    simp only [fpow]
    rw [← fm_assoc r _ _ hr (hp _), fm_comm r _ hr (hp _), fm_assoc _ _ _ (hp _) hr, fm_comm r _ hr (fpow_lt r j)]
  have head : ∀ i k, xs (fun j => fm (p (i + j)) (fpow r j)) (k + 1) = p i ^^^ xs (fun j => fm (p (i + 1 + j)) (fpow r (j + 1))) k := by
    intro i k
    rw [xs_front]
    show fm (p (i + 0)) (fpow r 0) ^^^ _ = _
    rw [show fpow r 0 = 1 from rfl, Nat.add_zero, fm_one _ (hp i)]
    congr 1
    refine xs_congr (fun j _ => ?_)
    rw [show i + (j + 1) = i + 1 + j by omega]
  intro i
  cases i with
  | zero =>
    rw [(lin_pm r _ hel).2]
    show p 0 = fm r (xs (fun j => fm (p (0 + 1 + j)) (fpow r j)) (n - 0))
    rw [step, Nat.sub_zero]
    have e := head 0 n
    have e2 : xs (fun j => fm (p (0 + j)) (fpow r j)) (n + 1) = 0 := by
      exact (xs_congr (fun k _ => by rw [Nat.zero_add])).trans h0
    rw [e2] at e
    exact (xor_eq_zero_iff _ _).mp e.symm
  | succ i =>
    rw [(lin_pm r _ hel).1 i]
    show p (i + 1) = fm r (xs (fun j => fm (p (i + 1 + 1 + j)) (fpow r j)) (n - (i + 1))) ^^^ xs (fun j => fm (p (i + 1 + j)) (fpow r j)) (n - i)
    rw [step]
    by_cases h : i < n
    · rw [show n - i = n - (i + 1) + 1 by omega, head (i + 1) (n - (i + 1)), Nat.xor_comm (p (i + 1)), ← Nat.xor_assoc, Nat.xor_self, Nat.zero_xor]
    · rw [show n - (i + 1) = 0 by omega, show n - i = 0 by omega, hn (i + 1) (by omega)]
      simp [xs]
/-- n roots, all unlike, of a polynomial with n coefficients: it is 0. -/
theorem roots_zero (n : Nat) : ∀ (p rt : Nat → Nat), El p → Above n p → (∀ k, k < n → rt k < 256) → (∀ j k, j < n → k < n → rt j = rt k → j = k) → (∀ k, k < n → ev p n (rt k) = 0) → ∀ i, p i = 0 := by
  induction n with
  | zero => intro p rt _ ha _ _ _ i; exact ha i (by omega)
  | succ n ih =>
    intro p rt hp ha hb hi hr i
    obtain ⟨q, hq, hqa, hpq⟩ := factor hp (hb n (by omega)) ha (hr n (by omega))
    have hz : ∀ i, q i = 0 := by
      refine ih q rt hq hqa (fun k hk => hb k (by omega)) (fun j k hj hk => hi j k (by omega) (by omega)) (fun k hk => ?_)
      have e := hr k (by omega)
      have e2 : ev p (2 + n) (rt k) = 0 := by rw [ev_ext ha (by omega)]; exact e
      rw [ev_congr (q := pm (lin (rt n)) q) (fun i _ => hpq i), ev_pm (lin_el (hb n (by omega))) hq (lin_above _) hqa, ev_lin _ _ (hb n (by omega)) (hb k (by omega))] at e2
      rcases (fm_eq_zero _ _ (xor_lt _ _ (hb n (by omega)) (hb k (by omega))) (ev_lt hq _ _)).mp e2 with h | h
      · have := hi n k (by omega) (by omega) ((xor_eq_zero_iff _ _).mp h)
        omega
      · exact h
    rw [hpq i]
    exact xs_zero (fun k _ => by rw [hz, fm_zero])
end Go.Proofs.Ythpjedoolbfjfab
