/-
  Degrees, values, roots and divisors of polynomials: no Go in sight.
  Divisors of polynomials, and the greatest common one: no Go in sight.
  Lagrange's polynomials: no Go in sight.
  Matrices that send nothing but nothing to nothing: Vandermonde's, Cauchy's, and the identity above Cauchy's.
  Any k rows of the generators; what a check's rows tell.
-/
import Derived.Test.YtblfldjlehjnbaaGb
import Derived.Test.YtblfldjlehjnbaaGd
namespace Go.Proofs.Ytblfldjlehjnbaa

/-- No coefficient from n on. -/
def Above (n : Nat) (p : Nat → Nat) : Prop := ∀ i, n ≤ i → p i = 0
theorem Above.mono {n m : Nat} {p : Nat → Nat} (h : Above n p) (hnm : n ≤ m) : Above m p := fun i hi => h i (by omega)
theorem Above.pa {n : Nat} {p q : Nat → Nat} (hp : Above n p) (hq : Above n q) : Above n (pa p q) := fun i hi => by
  show p i ^^^ q i = 0
  rw [hp i hi, hq i hi]; rfl
theorem pm_above {n m : Nat} {p q : Nat → Nat} (hp : Above n p) (hq : Above m q) (i : Nat) (hi : n + m ≤ i + 1) : pm p q i = 0 := by
  refine xs_zero (fun k _ => ?_)
  by_cases h : n ≤ k
  · rw [hp k h, zero_fm]
  · rw [hq (i - k) (by omega), fm_zero]
theorem Above.pm {n m : Nat} {p q : Nat → Nat} (hp : Above n p) (hq : Above m q) : Above (n + m) (pm p q) := fun i hi => pm_above hp hq i (by omega)
theorem pm_top {n m : Nat} {p q : Nat → Nat} (hp : Above (n + 1) p) (hq : Above (m + 1) q) : pm p q (n + m) = fm (p n) (q m) := by
  unfold Go.Proofs.Ytblfldjlehjnbaa.pm
  rw [xs_one (k0 := n) (by omega) (fun k _ hk => ?_)]
  · rw [show n + m - n = m by omega]
  · by_cases h : n < k
    · rw [hp k (by omega), zero_fm]
    · rw [hq (n + m - k) (by omega), fm_zero]
theorem top_exists {N : Nat} {p : Nat → Nat} (h : Above N p) : (∀ i, p i = 0) ∨ ∃ n, n < N ∧ p n ≠ 0 ∧ Above (n + 1) p := by
  induction N with
  | zero => exact .inl (fun i => h i (by omega))
  | succ N ih =>
    by_cases e : p N = 0
    · have h' : Above N p := fun i hi => by
        by_cases ei : i = N
        · rw [ei]; exact e
        · exact h i (by omega)
      rcases ih h' with h0 | ⟨n, hn, h1, h2⟩
      · exact .inl h0
      · exact .inr ⟨n, by omega, h1, h2⟩
    · exact .inr ⟨N, by omega, e, h⟩
theorem xor_eq_zero_iff (a b : Nat) : a ^^^ b = 0 ↔ a = b := by
  constructor
  · intro h
    have : a ^^^ b ^^^ b = 0 ^^^ b := by rw [h]
    rw [Nat.xor_assoc, Nat.xor_self, Nat.xor_zero, Nat.zero_xor] at this
    exact this
  · rintro rfl; exact Nat.xor_self a
/-- A product with q, whose highest coefficient stands at m, reaches m only if the factor is 0. -/
theorem pm_low {N m : Nat} {e q : Nat → Nat} (he : El e) (hq : El q) (hN : Above N e) (hm : Above (m + 1) q) (h0 : q m ≠ 0) (h : ∀ i, m ≤ i → pm e q i = 0) : ∀ i, e i = 0 := by
  rcases top_exists hN with h1 | ⟨n, _, h1, h2⟩
  · exact h1
  · have := h (n + m) (by omega)
    rw [pm_top h2 hm, fm_eq_zero _ _ (he n) (hq m)] at this
    rcases this with h3 | h3
    · exact absurd h3 h1
    · exact absurd h3 h0
/-- Quotient and remainder are the only ones. -/
theorem div_unique {N m : Nat} {a c q b d : Nat → Nat} (ha : El a) (hc : El c) (hq : El q) (hNa : Above N a) (hNc : Above N c) (hm : Above (m + 1) q) (h0 : q m ≠ 0) (hb : Above m b) (hd : Above m d)
    (h : ∀ i, pa (pm a q) b i = pa (pm c q) d i) : (∀ i, a i = c i) ∧ ∀ i, b i = d i := by
  have key : ∀ i, pm (pa a c) q i = b i ^^^ d i := by
    intro i
    rw [pa_pm q ha hc]
    have hi := h i
    unfold pa at *
    have : pm a q i ^^^ b i ^^^ (pm c q i ^^^ b i) = pm c q i ^^^ d i ^^^ (pm c q i ^^^ b i) := by rw [hi]
    rw [xor4, Nat.xor_self, Nat.xor_zero, xor4, Nat.xor_self, Nat.zero_xor, Nat.xor_comm (d i)] at this
    exact this
  have hz := pm_low (pa_el ha hc) hq (hNa.pa hNc) hm h0 (fun i hi => by rw [key i, hb i hi, hd i hi]; rfl)
  have hac : ∀ i, a i = c i := fun i => (xor_eq_zero_iff _ _).mp (hz i)
  refine ⟨hac, fun i => ?_⟩
  have k := key i
  have z : pm (pa a c) q i = 0 := xs_zero (fun k _ => by rw [hz k, zero_fm])
  rw [z] at k
  exact (xor_eq_zero_iff _ _).mp k.symm

/-! ### Values -/
theorem fpow_add (x a b : Nat) : fpow x (a + b) = fm (fpow x a) (fpow x b) := by
  induction b with
  | zero => rw [Nat.add_zero]; simp only [fpow]; rw [fm_one _ (fpow_lt x a)]
  | succ b ih => rw [← Nat.add_assoc]; simp only [fpow]; rw [ih, fm_assoc _ _ _ (fpow_lt x a) (fpow_lt x b)]
/-- The value of a polynomial of n coefficients at x. -/
def ev (p : Nat → Nat) (n x : Nat) : Nat := xs (fun i => fm (p i) (fpow x i)) n
theorem ev_lt {p : Nat → Nat} (hp : El p) (n x : Nat) : ev p n x < 256 := xs_lt (fun k _ => fm_lt _ _ (hp k))
theorem ev_ext {p : Nat → Nat} {n m : Nat} (hp : Above n p) (h : n ≤ m) (x : Nat) : ev p m x = ev p n x :=
  xs_ext h (fun k h1 _ => by rw [hp k h1, zero_fm])
theorem ev_congr {p q : Nat → Nat} {n : Nat} (h : ∀ i, i < n → p i = q i) (x : Nat) : ev p n x = ev q n x := xs_congr (fun k hk => by rw [h k hk])
theorem ev_pa {p q : Nat → Nat} (hp : El p) (hq : El q) (n x : Nat) : ev (pa p q) n x = ev p n x ^^^ ev q n x := by
  unfold ev
  rw [← xs_add]
  exact xs_congr (fun k _ => xor_fm _ _ _ (hp k) (hq k))
theorem ev_pm {p q : Nat → Nat} {n m x : Nat} (hp : El p) (hq : El q) (hn : Above n p) (hm : Above m q) : ev (pm p q) (n + m) x = fm (ev p n x) (ev q m x) := by
  have e1 : ev (pm p q) (n + m) x = xs (fun i => xs (fun a => xs (fun b => if a + b = i then fm (fm (p a) (q b)) (fpow x i) else 0) (n + m)) (n + m)) (n + m) := by
    refine xs_congr (fun i hi => ?_)
    rw [pm_pairs p q i (n + m) hi, xs_mul_r _ _ _ (fun a _ => xs_lt (fun b _ => ite_lt _ _ (fm_lt _ _ (hp a))))]
    refine xs_congr (fun a _ => ?_)
    rw [xs_mul_r _ _ _ (fun b _ => ite_lt _ _ (fm_lt _ _ (hp a)))]
    exact xs_congr (fun b _ => fm_ite _ _ _)
  rw [e1, xs_swap]
  have e2 : ∀ a, a < n + m → xs (fun i => xs (fun b => if a + b = i then fm (fm (p a) (q b)) (fpow x i) else 0) (n + m)) (n + m) = xs (fun b => fm (fm (p a) (fpow x a)) (fm (q b) (fpow x b))) (n + m) := by
    intro a ha
    rw [xs_swap]
    refine xs_congr (fun b hb => ?_)
    by_cases h : a + b < n + m
    · rw [xs_one (k0 := a + b) h (fun i _ hi => if_neg (by omega)), if_pos rfl, fpow_add x a b]
      rw [fm_assoc _ _ _ (hp a) (hq b), fm_assoc _ _ _ (hp a) (fpow_lt x a)]
      rw [← fm_assoc (q b) _ _ (hq b) (fpow_lt x a), fm_comm (q b) _ (hq b) (fpow_lt x a), fm_assoc _ _ _ (fpow_lt x a) (hq b)]
    · rw [xs_zero (fun i hi => if_neg (by omega))]
      by_cases h2 : n ≤ a
      · rw [hn a h2, zero_fm, zero_fm]
      · rw [hm b (by omega), zero_fm, fm_zero]
  rw [xs_congr e2]
  rw [← ev_ext hn (by omega : n ≤ n + m) x, ← ev_ext hm (by omega : m ≤ n + m) x]
  unfold ev
  rw [xs_mul_r _ _ _ (fun k _ => fm_lt _ _ (hp k))]
  exact xs_congr (fun a _ => (xs_mul_l _ _ _).symm)

/-! ### Roots -/
/-- x and r. -/
def lin (r : Nat) (i : Nat) : Nat := if i = 0 then r else if i = 1 then 1 else 0
theorem lin_el {r : Nat} (h : r < 256) : El (lin r) := fun i => by unfold lin; split; exact h; split <;> decide
theorem lin_above (r : Nat) : Above 2 (lin r) := fun i hi => by unfold lin; rw [if_neg (by omega), if_neg (by omega)]
theorem ev_lin (r x : Nat) (hr : r < 256) (hx : x < 256) : ev (lin r) 2 x = r ^^^ x := by
  simp only [ev, xs, lin, fpow, Nat.zero_xor]
  simp only [if_true, if_neg (show ¬ 1 = 0 by decide)]
  rw [fm_one r hr, one_fm x hx, one_fm x hx]
theorem lin_pm (r : Nat) (q : Nat → Nat) (hq : El q) : (∀ i, pm (lin r) q (i + 1) = fm r (q (i + 1)) ^^^ q i) ∧ pm (lin r) q 0 = fm r (q 0) := by
  constructor
  · intro i
    have z : xs (fun k => fm (lin r (k + 1 + 1)) (q (i + 1 - (k + 1 + 1)))) i = 0 := xs_zero (fun k _ => by
      rw [show lin r (k + 1 + 1) = 0 from lin_above r _ (by omega), zero_fm])
    unfold pm
    rw [xs_front, xs_front, z, Nat.xor_zero]
    show fm (lin r 0) (q (i + 1 - 0)) ^^^ fm (lin r 1) (q (i + 1 - 1)) = _
    rw [show lin r 0 = r from rfl, show lin r 1 = 1 from rfl, Nat.sub_zero, Nat.add_sub_cancel, one_fm _ (hq i)]
  · simp only [pm, xs, Nat.zero_xor]
    rfl
/-- A root splits off a factor. -/
theorem factor {n : Nat} {p : Nat → Nat} {r : Nat} (hp : El p) (hr : r < 256) (hn : Above (n + 1) p) (h0 : ev p (n + 1) r = 0) : ∃ q, El q ∧ Above n q ∧ ∀ i, p i = pm (lin r) q i := by
  -- q i: the sum of p (i + 1 + j) times r to the power j
  refine ⟨fun i => xs (fun j => fm (p (i + 1 + j)) (fpow r j)) (n - i), fun i => xs_lt (fun k _ => fm_lt _ _ (hp _)), fun i hi => by show xs _ (n - i) = 0; rw [show n - i = 0 by omega]; rfl, ?_⟩
  have hel : El (fun i => xs (fun j => fm (p (i + 1 + j)) (fpow r j)) (n - i)) := fun i => xs_lt (fun k _ => fm_lt _ _ (hp _))
  have step : ∀ i k, fm r (xs (fun j => fm (p (i + 1 + j)) (fpow r j)) k) = xs (fun j => fm (p (i + 1 + j)) (fpow r (j + 1))) k := by
    intro i k
    rw [xs_mul_l]
    refine xs_congr (fun j _ => ?_)
    simp only [fpow]
    rw [← fm_assoc r _ _ hr (hp _), fm_comm r _ hr (hp _), fm_assoc _ _ _ (hp _) hr, fm_comm r _ hr (fpow_lt r j)]
  have head : ∀ i k, xs (fun j => fm (p (i + j)) (fpow r j)) (k + 1) = p i ^^^ xs (fun j => fm (p (i + 1 + j)) (fpow r (j + 1))) k := by
    intro i k
    rw [xs_front]
    show fm (p (i + 0)) (fpow r 0) ^^^ _ = _
    rw [show fpow r 0 = 1 from rfl, Nat.add_zero, fm_one _ (hp i)]
    congr 1
    refine xs_congr (fun j _ => ?_)
    rw [show i + (j + 1) = i + 1 + j by omega]
  intro i
  cases i with
  | zero =>
    rw [(lin_pm r _ hel).2]
    show p 0 = fm r (xs (fun j => fm (p (0 + 1 + j)) (fpow r j)) (n - 0))
    rw [step, Nat.sub_zero]
    have e := head 0 n
    have e2 : xs (fun j => fm (p (0 + j)) (fpow r j)) (n + 1) = 0 := by
      exact (xs_congr (fun k _ => by rw [Nat.zero_add])).trans h0
    rw [e2] at e
    exact (xor_eq_zero_iff _ _).mp e.symm
  | succ i =>
    rw [(lin_pm r _ hel).1 i]
    show p (i + 1) = fm r (xs (fun j => fm (p (i + 1 + 1 + j)) (fpow r j)) (n - (i + 1))) ^^^ xs (fun j => fm (p (i + 1 + j)) (fpow r j)) (n - i)
    rw [step]
    by_cases h : i < n
    · rw [show n - i = n - (i + 1) + 1 by omega, head (i + 1) (n - (i + 1)), Nat.xor_comm (p (i + 1)), ← Nat.xor_assoc, Nat.xor_self, Nat.zero_xor]
    · rw [show n - (i + 1) = 0 by omega, show n - i = 0 by omega, hn (i + 1) (by omega)]
      simp [xs]
/-- n roots, all unlike, of a polynomial with n coefficients: it is 0. -/
theorem roots_zero (n : Nat) : ∀ (p rt : Nat → Nat), El p → Above n p → (∀ k, k < n → rt k < 256) → (∀ j k, j < n → k < n → rt j = rt k → j = k) → (∀ k, k < n → ev p n (rt k) = 0) → ∀ i, p i = 0 := by
  induction n with
  | zero => intro p rt _ ha _ _ _ i; exact ha i (by omega)
  | succ n ih =>
    intro p rt hp ha hb hi hr i
    obtain ⟨q, hq, hqa, hpq⟩ := factor hp (hb n (by omega)) ha (hr n (by omega))
    have hz : ∀ i, q i = 0 := by
      refine ih q rt hq hqa (fun k hk => hb k (by omega)) (fun j k hj hk => hi j k (by omega) (by omega)) (fun k hk => ?_)
      have e := hr k (by omega)
      have e2 : ev p (2 + n) (rt k) = 0 := by rw [ev_ext ha (by omega)]; exact e
      rw [ev_congr (q := pm (lin (rt n)) q) (fun i _ => hpq i), ev_pm (lin_el (hb n (by omega))) hq (lin_above _) hqa, ev_lin _ _ (hb n (by omega)) (hb k (by omega))] at e2
      rcases (fm_eq_zero _ _ (xor_lt _ _ (hb n (by omega)) (hb k (by omega))) (ev_lt hq _ _)).mp e2 with h | h
      · have := hi n k (by omega) (by omega) ((xor_eq_zero_iff _ _).mp h)
        omega
      · exact h
    rw [hpq i]
    exact xs_zero (fun k _ => by rw [hz, fm_zero])
end Go.Proofs.Ytblfldjlehjnbaa

namespace Go.Proofs.Ytblfldjlehjnbaa

/-- A polynomial: elements, and no coefficient from some place on. -/
def Po (p : Nat → Nat) : Prop := El p ∧ ∃ n, Above n p
theorem Po.pm {p q : Nat → Nat} (hp : Po p) (hq : Po q) : Po (pm p q) := by
  obtain ⟨n, hn⟩ := hp.2
  obtain ⟨m, hm⟩ := hq.2
  exact ⟨pm_el q hp.1, _, hn.pm hm⟩
theorem Po.pa {p q : Nat → Nat} (hp : Po p) (hq : Po q) : Po (pa p q) := by
  obtain ⟨n, hn⟩ := hp.2
  obtain ⟨m, hm⟩ := hq.2
  exact ⟨pa_el hp.1 hq.1, _, (hn.mono (Nat.le_max_left n m)).pa (hm.mono (Nat.le_max_right n m))⟩
theorem Po.zero : Po (fun _ => 0) := ⟨fun _ => (by decide : 0 < 256), 0, fun _ _ => rfl⟩
/-- The number 1. -/
def uno (i : Nat) : Nat := if i = 0 then 1 else 0
theorem Po.uno : Po uno := ⟨fun i => by unfold Go.Proofs.Ytblfldjlehjnbaa.uno; split <;> decide, 1, fun i hi => if_neg (by omega)⟩
theorem uno_pm {p : Nat → Nat} (hp : El p) (i : Nat) : pm uno p i = p i := by
  unfold Go.Proofs.Ytblfldjlehjnbaa.pm
  rw [xs_one (k0 := 0) (by omega) (fun k _ hk => by rw [show uno k = 0 from if_neg hk, zero_fm])]
  show fm 1 (p (i - 0)) = p i
  rw [Nat.sub_zero, one_fm _ (hp i)]
theorem pm_congr {p p' q q' : Nat → Nat} (hp : ∀ i, p i = p' i) (hq : ∀ i, q i = q' i) (i : Nat) : pm p q i = pm p' q' i := xs_congr (fun k _ => by rw [hp, hq])
theorem pm_zero_r (p : Nat → Nat) (i : Nat) : pm p (fun _ => 0) i = 0 := xs_zero (fun _ _ => fm_zero _)
/-- d divides p. -/
def Dv (d p : Nat → Nat) : Prop := ∃ q, Po q ∧ ∀ i, p i = pm d q i
theorem Dv.refl {d : Nat → Nat} (hd : El d) : Dv d d := ⟨uno, Po.uno, fun i => by rw [pm_comm hd Po.uno.1, uno_pm hd]⟩
theorem Dv.zero (d : Nat → Nat) : Dv d (fun _ => 0) := ⟨_, Po.zero, fun i => (pm_zero_r d i).symm⟩
theorem Dv.congr {d d' p p' : Nat → Nat} (h : Dv d p) (hd : ∀ i, d i = d' i) (hp : ∀ i, p i = p' i) : Dv d' p' := by
  obtain ⟨q, hq, h⟩ := h
  exact ⟨q, hq, fun i => by rw [← hp i, h i]; exact pm_congr hd (fun _ => rfl) i⟩
theorem Dv.pa {d p q : Nat → Nat} (hp : Dv d p) (hq : Dv d q) : Dv d (pa p q) := by
  obtain ⟨a, ha, h1⟩ := hp
  obtain ⟨b, hb, h2⟩ := hq
  refine ⟨_, ha.pa hb, fun i => ?_⟩
  rw [pm_pa]
  show p i ^^^ q i = pm d a i ^^^ pm d b i
  rw [h1, h2]
theorem Dv.pm {d p : Nat → Nat} (hd : El d) (hp : Dv d p) {r : Nat → Nat} (hr : Po r) : Dv d (pm p r) := by
  obtain ⟨a, ha, h1⟩ := hp
  refine ⟨_, ha.pm hr, fun i => ?_⟩
  rw [← pm_assoc r hd ha.1]
  exact pm_congr h1 (fun _ => rfl) i
theorem Dv.trans {a b c : Nat → Nat} (ha : El a) (h1 : Dv a b) (h2 : Dv b c) : Dv a c := by
  obtain ⟨q, hq, h2⟩ := h2
  exact (Dv.pm ha h1 hq).congr (fun _ => rfl) (fun i => (h2 i).symm)
/-- One round of Euclid's: what divides both of p and q divides both of q and the remainder, and the other way round. -/
theorem euclid {d p q a r : Nat → Nat} (hd : El d) (hq : El q) (ha : Po a) (h : ∀ i, p i = pa (pm a q) r i) : (Dv d p ∧ Dv d q) ↔ (Dv d q ∧ Dv d r) := by
  have e : ∀ i, pm a q i = pm q a i := fun i => pm_comm ha.1 hq i
  constructor
  · rintro ⟨h1, h2⟩
    refine ⟨h2, ?_⟩
    refine (Dv.pa h1 ((Dv.pm hd h2 ha))).congr (fun _ => rfl) (fun i => ?_)
    show p i ^^^ pm q a i = r i
    rw [h i]
    show (pm a q i ^^^ r i) ^^^ pm q a i = r i
    rw [e, Nat.xor_comm (pm q a i), Nat.xor_assoc, Nat.xor_self, Nat.xor_zero]
  · rintro ⟨h1, h2⟩
    refine ⟨?_, h1⟩
    refine (Dv.pa (Dv.pm hd h1 ha) h2).congr (fun _ => rfl) (fun i => ?_)
    rw [h i]
    show pm q a i ^^^ r i = pm a q i ^^^ r i
    rw [e]
/-- Two polynomials whose highest coefficients are 1 and that divide one another are one. -/
theorem monic_same {d e : Nat → Nat} {n m : Nat} (hd : El d) (he : El e) (hn : Above (n + 1) d) (hm : Above (m + 1) e) (h1 : d n = 1) (h2 : e m = 1) (a : Dv d e) (b : Dv e d) : ∀ i, d i = e i := by
  -- a divisor is no longer
  have le : ∀ {d e : Nat → Nat} {n m : Nat}, El d → Above (n + 1) d → d n = 1 → e m = 1 → Above (m + 1) e → Dv d e → n ≤ m ∧ (n = m → ∀ i, d i = e i) := by
    intro d e n m hd hn h1 h2 hm hde
    obtain ⟨q, hq, h⟩ := hde
    obtain ⟨N, hN⟩ := hq.2
    rcases top_exists hN with hz | ⟨k, _, hk, hka⟩
    · have := h m
      rw [h2, show pm d q m = 0 from xs_zero (fun k _ => by rw [hz, fm_zero])] at this
      omega
    · have ht := pm_top hn hka
      rw [← h (n + k), h1, one_fm _ (hq.1 k)] at ht
      have hmk : n + k = m := by
        by_cases hlt : m < n + k
        · rw [hm (n + k) (by omega)] at ht
          exact absurd ht.symm hk
        · by_cases hgt : n + k < m
          · have := h m
            rw [h2, pm_above hn hka m (by omega)] at this
            omega
          · omega
      refine ⟨by omega, fun hnm => ?_⟩
      have k0 : k = 0 := by omega
      subst k0
      have q0 : q 0 = 1 := by rw [← ht, hmk, h2]
      intro i
      rw [h i, pm_comm hd hq.1]
      have hu : ∀ i, q i = uno i := fun i => by
        unfold uno
        by_cases e : i = 0
        · rw [e, if_pos rfl, q0]
        · rw [if_neg e]; exact hka i (by omega)
      rw [pm_congr hu (fun _ => rfl), uno_pm hd]
  have x := le hd hn h1 h2 hm a
  have y := le he hm h2 h1 hn b
  exact x.2 (by omega)
end Go.Proofs.Ytblfldjlehjnbaa

namespace Go.Proofs.Ytblfldjlehjnbaa
/-- No more than m numbers below m are unlike. -/
theorem pigeon (m : Nat) : ∀ (n : Nat) (f : Nat → Nat), (∀ i, i < n → f i < m) → (∀ i j, i < n → j < n → f i = f j → i = j) → n ≤ m := by
  induction m with
  | zero => intro n f hb _; cases n with
    | zero => exact Nat.le_refl _
    | succ n => exact absurd (hb 0 (by omega)) (by omega)
  | succ m ih =>
    intro n f hb hi
    by_cases h : ∃ i, i < n ∧ f i = m
    · obtain ⟨i0, h0, e0⟩ := h
      have := ih (n - 1) (fun i => if i < i0 then f i else f (i + 1)) (fun i hin => by
        show (if i < i0 then f i else f (i + 1)) < m
        split
        · have h1 := hb i (by omega)
          have h2 : f i ≠ m := fun e => by have := hi i i0 (by omega) h0 (by rw [e, e0]); omega
          omega
        · have h1 := hb (i + 1) (by omega)
          have h2 : f (i + 1) ≠ m := fun e => by have := hi (i + 1) i0 (by omega) h0 (by rw [e, e0]); omega
          omega) (fun i j hin hjn e => by
        have e : (if i < i0 then f i else f (i + 1)) = (if j < i0 then f j else f (j + 1)) := e
        split at e <;> split at e
        · exact hi i j (by omega) (by omega) e
        · have := hi i (j + 1) (by omega) (by omega) e; omega
        · have := hi (i + 1) j (by omega) (by omega) e; omega
        · have := hi (i + 1) (j + 1) (by omega) (by omega) e; omega)
      omega
    · have := ih n f (fun i hin => by
        have h1 := hb i hin
        have h2 : f i ≠ m := fun e => h ⟨i, hin, e⟩
        omega) hi
      omega
/-- a and b times x. -/
def lf (a b i : Nat) : Nat := if i = 0 then a else if i = 1 then b else 0
theorem lf_el {a b : Nat} (ha : a < 256) (hb : b < 256) : El (lf a b) := fun i => by unfold lf; split; exact ha; split; exact hb; decide
theorem lf_above (a b : Nat) : Above 2 (lf a b) := fun i hi => by unfold lf; rw [if_neg (by omega), if_neg (by omega)]
theorem ev_lf (a b x : Nat) (ha : a < 256) (hx : x < 256) : ev (lf a b) 2 x = a ^^^ fm b x := by
  simp only [ev, xs, lf, fpow, Nat.zero_xor]
  simp only [if_true, if_neg (show ¬ 1 = 0 by decide)]
  rw [fm_one a ha, one_fm x hx]
/-- The first k factors of the polynomial that is 1 at the point i, and 0 at all others. -/
def tm (f : Nat → Nat) (i : Nat) : Nat → Nat → Nat
  | 0 => uno
  | k + 1 => if k = i then tm f i k else pm (tm f i k) (lf (fm (f k) (finv (f i ^^^ f k))) (finv (f i ^^^ f k)))
theorem tm_el (f : Nat → Nat) (i : Nat) : ∀ k, El (tm f i k) := by
  intro k
  induction k with
  | zero => exact Po.uno.1
  | succ k ih => simp only [tm]; split; exact ih; exact pm_el _ ih
/-- How many factors there are, and one. -/
def tn (i : Nat) : Nat → Nat
  | 0 => 1
  | k + 1 => if k = i then tn i k else tn i k + 1
theorem tn_le (i k : Nat) : tn i k ≤ k + 1 := by
  induction k with
  | zero => exact Nat.le_refl _
  | succ k ih => simp only [tn]; split <;> omega
theorem tn_eq (i : Nat) : ∀ k, i < k → tn i k = k := by
  intro k
  induction k with
  | zero => intro h; omega
  | succ k ih =>
    intro h
    simp only [tn]
    by_cases e : k = i
    · subst e
      rw [if_pos rfl]
      have : ∀ j, j ≤ k → tn k j = j + 1 := by
        intro j
        induction j with
        | zero => intro _; rfl
        | succ j ihj => intro hj; simp only [tn]; rw [if_neg (by omega), ihj (by omega)]
      exact this k (Nat.le_refl _)
    · rw [if_neg e, ih (by omega)]
theorem tm_above (f : Nat → Nat) (i : Nat) : ∀ k, Above (tn i k) (tm f i k) := by
  intro k
  induction k with
  | zero => exact fun j hj => if_neg (by simp only [tn] at hj; omega)
  | succ k ih =>
    simp only [tm, tn]
    split
    · exact ih
    · exact fun j hj => pm_above ih (lf_above _ _) j (by omega)
theorem tm_ev (f : Nat → Nat) (n i x : Nat) (hf : ∀ j, j < n → f j < 256) (hx : x < 256) (k : Nat) (hk : k < n) (hki : k ≠ i) :
    ev (tm f i (k + 1)) (tn i (k + 1)) x = fm (ev (tm f i k) (tn i k) x) (fm (finv (f i ^^^ f k)) (f k ^^^ x)) := by
  have hd := finv_lt (f i ^^^ f k)
  have ha : fm (f k) (finv (f i ^^^ f k)) < 256 := fm_lt _ _ (hf k hk)
  have e1 : tm f i (k + 1) = pm (tm f i k) (lf (fm (f k) (finv (f i ^^^ f k))) (finv (f i ^^^ f k))) := by simp only [tm]; rw [if_neg hki]
  have e2 : tn i (k + 1) = tn i k + 1 := by simp only [tn]; rw [if_neg hki]
  rw [e1, e2]
  have := ev_pm (x := x) (tm_el f i k) (lf_el ha hd) (tm_above f i k) (lf_above _ _)
  rw [← ev_ext (fun j hj => pm_above (tm_above f i k) (lf_above _ _) j (by omega)) (by omega : tn i k + 1 ≤ tn i k + 2), this, ev_lf _ _ _ ha hx, fm_comm (f k) _ (hf k hk) hd, ← fm_xor]
theorem tm_one (f : Nat → Nat) (n i : Nat) (hf : ∀ j, j < n → f j < 256) (hinj : ∀ a b, a < n → b < n → f a = f b → a = b) (hi : i < n) : ∀ k, k ≤ n → ev (tm f i k) (tn i k) (f i) = 1 := by
  intro k
  induction k with
  | zero => intro _; simp only [tm, tn, ev, xs, fpow]; kernel_rfl
  | succ k ih =>
    intro hk
    by_cases e : k = i
    · simp only [tm, tn]; rw [if_pos e, if_pos e]; exact ih (by omega)
    · rw [tm_ev f n i _ hf (hf i hi) k (by omega) e, ih (by omega)]
      have h0 : f i ^^^ f k ≠ 0 := fun h => e (hinj k i (by omega) hi ((xor_eq_zero_iff _ _).mp h).symm)
      have hl : f i ^^^ f k < 256 := xor_lt _ _ (hf i hi) (hf k (by omega))
      rw [Nat.xor_comm (f k) (f i), fm_comm _ _ (finv_lt _) hl, fm_finv _ hl h0]
      exact one_fm 1 (by decide)
theorem tm_zero (f : Nat → Nat) (n i j : Nat) (hf : ∀ j, j < n → f j < 256) (hj : j < n) (hij : j ≠ i) : ∀ k, k ≤ n → j < k → ev (tm f i k) (tn i k) (f j) = 0 := by
  intro k
  induction k with
  | zero => intro _ h; omega
  | succ k ih =>
    intro hk hjk
    by_cases e : k = i
    · simp only [tm, tn]; rw [if_pos e, if_pos e]; exact ih (by omega) (by omega)
    · rw [tm_ev f n i _ hf (hf j hj) k (by omega) e]
      by_cases e2 : j = k
      · subst e2; rw [Nat.xor_self, fm_zero, fm_zero]
      · rw [ih (by omega) (by omega), zero_fm]
/-- A constant. -/
def kc (c i : Nat) : Nat := if i = 0 then c else 0
theorem kc_el {c : Nat} (h : c < 256) : El (kc c) := fun i => by unfold kc; split; exact h; decide
theorem kc_above (c : Nat) : Above 1 (kc c) := fun i hi => if_neg (by omega)
/-- The sum of the first k terms. -/
def lg_sum (f h : Nat → Nat) (n : Nat) : Nat → Nat → Nat
  | 0 => fun _ => 0
  | k + 1 => pa (lg_sum f h n k) (pm (tm f k n) (kc (h k)))
theorem lsum_el (f h : Nat → Nat) (n : Nat) : ∀ k, El (lg_sum f h n k) := by
  intro k
  induction k with
  | zero => exact fun _ => (by decide : 0 < 256)
  | succ k ih => exact pa_el ih (pm_el _ (tm_el f k n))
theorem lsum_above (f h : Nat → Nat) (n : Nat) : ∀ k, k ≤ n → Above n (lg_sum f h n k) := by
  intro k
  induction k with
  | zero => intro _ i _; rfl
  | succ k ih =>
    intro hk
    refine (ih (by omega)).pa ?_
    have := tm_above f k n
    rw [tn_eq k n (by omega)] at this
    exact fun i hi => pm_above this (kc_above _) i (by omega)
theorem lsum_ev (f h : Nat → Nat) (n j : Nat) (hf : ∀ j, j < n → f j < 256) (hh : ∀ j, j < n → h j < 256) (hinj : ∀ a b, a < n → b < n → f a = f b → a = b) (hj : j < n) : ∀ k, k ≤ n → ev (lg_sum f h n k) n (f j) = if j < k then h j else 0 := by
  intro k
  induction k with
  | zero => intro _; rw [if_neg (by omega)]; exact xs_zero (fun _ _ => zero_fm _)
  | succ k ih =>
    intro hk
    have hkn : k < n := by omega
    have ab := tm_above f k n
    rw [tn_eq k n hkn] at ab
    show ev (pa (lg_sum f h n k) (pm (tm f k n) (kc (h k)))) n (f j) = _
    rw [ev_pa (lsum_el f h n k) (pm_el _ (tm_el f k n)), ih (by omega)]
    have e : ev (pm (tm f k n) (kc (h k))) n (f j) = fm (ev (tm f k n) n (f j)) (h k) := by
      have := ev_pm (x := f j) (tm_el f k n) (kc_el (hh k hkn)) ab (kc_above _)
      rw [ev_ext (n := n) (fun i hi => pm_above ab (kc_above _) i (by omega)) (by omega)] at this
      rw [this]
      congr 1
      simp only [ev, xs, kc, fpow, Nat.zero_xor]
      exact fm_one _ (hh k hkn)
    rw [e]
    by_cases e2 : j = k
    · subst e2
      have := tm_one f n j hf hinj hj n (Nat.le_refl _)
      rw [tn_eq j n hj] at this
      rw [this, if_neg (by omega), if_pos (by omega), Nat.zero_xor, one_fm _ (hh j hj)]
    · have := tm_zero f n k j hf hj e2 n (Nat.le_refl _) hj
      rw [tn_eq k n hkn] at this
      rw [this, zero_fm, Nat.xor_zero]
      by_cases e3 : j < k
      · rw [if_pos e3, if_pos (by omega)]
      · rw [if_neg e3, if_neg (by omega)]
/-- Two polynomials of n coefficients that are alike at n unlike points are one. -/
theorem same_points {p q : Nat → Nat} {n : Nat} {f : Nat → Nat} (hp : El p) (hq : El q) (ap : Above n p) (aq : Above n q) (hf : ∀ j, j < n → f j < 256) (hinj : ∀ a b, a < n → b < n → f a = f b → a = b) (h : ∀ j, j < n → ev p n (f j) = ev q n (f j)) : ∀ i, p i = q i := by
  have := roots_zero n (pa p q) f (pa_el hp hq) (ap.pa aq) hf hinj (fun k hk => by rw [ev_pa hp hq, h k hk, Nat.xor_self])
  exact fun i => (xor_eq_zero_iff _ _).mp (this i)
end Go.Proofs.Ytblfldjlehjnbaa

namespace Go.Proofs.Ytblfldjlehjnbaa
/-- A matrix that sends nothing else to nothing has rank as many as columns. -/
theorem rk_of_ker {N : Nat → Nat → Nat} (hN : El2 N) {r c : Nat} (hc : ∀ i j, i < r → c ≤ j → N i j = 0) (h : ∀ x, El x → (∀ i, i < r → dt (N i) x c = 0) → ∀ j, j < c → x j = 0) : Rk N r c := by
  have hT : Rk (tpo N r) c c := by
    refine ⟨tpo N r, tpo_el hN r, fun a ha hz j hj => ?_, SpEq.refl (tpo_el hN r) c⟩
    refine h a ha (fun i hi => ?_) j hj
    rw [← hz i]
    exact xs_congr (fun t ht => by unfold tpo; rw [if_pos hi, fm_comm _ _ (hN i t) (ha t)])
  obtain ⟨k, hk⟩ := rk_ex hN r
  have := rk_tpo hc hk hT
  subst this
  exact hk
/-- Powers of unlike elements. -/
theorem vdm_ker {q : Nat → Nat} {k : Nat} (hq : ∀ i, i < k → q i < 256) (hi : ∀ i j, i < k → j < k → q i = q j → i = j) {x : Nat → Nat} (hx : El x) (h : ∀ i, i < k → dt (fpow (q i)) x k = 0) : ∀ j, j < k → x j = 0 := fun j hj => by
  have hp : El (fun j => if j < k then x j else 0) := fun j => ite_lt _ _ (hx j)
  have := roots_zero k (fun j => if j < k then x j else 0) q hp (fun i hi => if_neg (by omega)) hq hi (fun i hik => by
    rw [← h i hik]
    exact xs_congr (fun t ht => by dsimp only; rw [if_pos ht, fm_comm _ _ (hx t) (fpow_lt _ _)])) j
  simpa [hj] using this
theorem finv_ne {a : Nat} (h : a < 256) (h0 : a ≠ 0) : finv a ≠ 0 := fun e => by
  have := fm_finv a h h0
  rw [e, fm_zero] at this
  cases this
theorem xor_ne {a b : Nat} (h : a ≠ b) : a ^^^ b ≠ 0 := fun e => h ((xor_eq_zero_iff _ _).mp e)
theorem finv_sum {a b : Nat} (ha : a < 256) (hb : b < 256) (a0 : a ≠ 0) (b0 : b ≠ 0) : finv a ^^^ finv b = fm (a ^^^ b) (fm (finv a) (finv b)) := by
  rw [xor_fm _ _ _ ha hb, ← fm_assoc _ _ _ ha (finv_lt a), fm_finv a ha a0, one_fm _ (finv_lt b), fm_comm (finv a) (finv b) (finv_lt a) (finv_lt b), ← fm_assoc _ _ _ hb (finv_lt b), fm_finv b hb b0, one_fm _ (finv_lt a), Nat.xor_comm]
theorem xor_mid (a b c : Nat) : (a ^^^ c) ^^^ (b ^^^ c) = a ^^^ b := by
  rw [xor4, Nat.xor_self, Nat.xor_zero]
/-- Cauchy's matrix, square. -/
theorem cauchy_zero : ∀ (n : Nat) (c u v : Nat → Nat), (∀ j, j < n → c j < 256) → (∀ i, i < n → u i < 256) → (∀ j, j < n → v j < 256) → (∀ i j, i < n → j < n → u i = u j → i = j) → (∀ i j, i < n → j < n → v i = v j → i = j) → (∀ i j, i < n → j < n → u i ≠ v j) → (∀ i, i < n → xs (fun j => fm (c j) (finv (u i ^^^ v j))) n = 0) → ∀ j, j < n → c j = 0 := by
  intro n
  induction n with
  | zero => intro c u v _ _ _ _ _ _ _ j hj; omega
  | succ n ih =>
    intro c u v hc hu hv iu iv huv h
    have lt : ∀ i j, i < n + 1 → j < n + 1 → u i ^^^ v j < 256 := fun i j hi hj => xor_lt _ _ (hu i hi) (hv j hj)
    have ne : ∀ i j, i < n + 1 → j < n + 1 → u i ^^^ v j ≠ 0 := fun i j hi hj => xor_ne (huv i j hi hj)
    have dlt : ∀ j, j < n → fm (v j ^^^ v n) (c j) < 256 := fun j hj => fm_lt _ _ (xor_lt _ _ (hv j (by omega)) (hv n (by omega)))
    have key : ∀ i, i < n + 1 → c n = xs c n ^^^ xs (fun j => fm (fm (v j ^^^ v n) (c j)) (finv (u i ^^^ v j))) n := fun i hi => by
      have e := h i hi
      have e1 : xs (fun j => fm (c j) (finv (u i ^^^ v j))) n = fm (c n) (finv (u i ^^^ v n)) := (xor_eq_zero_iff _ _).mp (by simpa [xs] using e)
      have e2 : fm (u i ^^^ v n) (xs (fun j => fm (c j) (finv (u i ^^^ v j))) n) = c n := by
        rw [e1, fm_comm (c n) _ (hc n (by omega)) (finv_lt _), ← fm_assoc _ _ _ (lt i n hi (by omega)) (finv_lt _), fm_finv _ (lt i n hi (by omega)) (ne i n hi (by omega)), one_fm _ (hc n (by omega))]
      rw [← e2, xs_mul_l, ← xs_add]
      refine xs_congr (fun j hj => ?_)
      have hcj := hc j (by omega)
      have hv2 : v j ^^^ v n < 256 := xor_lt _ _ (hv j (by omega)) (hv n (by omega))
      rw [show u i ^^^ v n = (u i ^^^ v j) ^^^ (v j ^^^ v n) by rw [Nat.xor_assoc, ← Nat.xor_assoc (v j), Nat.xor_self, Nat.zero_xor], xor_fm _ _ _ (lt i j hi (by omega)) hv2, fm_assoc _ _ _ hv2 hcj]
      congr 1
      rw [fm_comm (c j) _ hcj (finv_lt _), ← fm_assoc _ _ _ (lt i j hi (by omega)) (finv_lt _), fm_finv _ (lt i j hi (by omega)) (ne i j hi (by omega)), one_fm _ hcj]
    have sub : ∀ i, i < n → xs (fun j => fm (fm (fm (v j ^^^ v n) (c j)) (finv (u n ^^^ v j))) (finv (u i ^^^ v j))) n = 0 := fun i hi => by
      have e1 := key i (by omega)
      have e2 := key n (by omega)
      have e3 : xs (fun j => fm (fm (v j ^^^ v n) (c j)) (finv (u i ^^^ v j))) n ^^^ xs (fun j => fm (fm (v j ^^^ v n) (c j)) (finv (u n ^^^ v j))) n = 0 := by
        have : xs c n ^^^ xs (fun j => fm (fm (v j ^^^ v n) (c j)) (finv (u i ^^^ v j))) n = xs c n ^^^ xs (fun j => fm (fm (v j ^^^ v n) (c j)) (finv (u n ^^^ v j))) n := by rw [← e1, ← e2]
        have h2 := congrArg (fun z => xs c n ^^^ z) this
        simp only [← Nat.xor_assoc, Nat.xor_self, Nat.zero_xor] at h2
        rw [h2, Nat.xor_self]
      rw [← xs_add] at e3
      have hui : u i ^^^ u n < 256 := xor_lt _ _ (hu i (by omega)) (hu n (by omega))
      have e4 : fm (u i ^^^ u n) (xs (fun j => fm (fm (fm (v j ^^^ v n) (c j)) (finv (u n ^^^ v j))) (finv (u i ^^^ v j))) n) = 0 := by
        rw [xs_mul_l, ← e3]
        refine xs_congr (fun j hj => ?_)
        have hd := dlt j hj
        rw [← fm_xor, finv_sum (lt i j (by omega) (by omega)) (lt n j (by omega) (by omega)) (ne i j (by omega) (by omega)) (ne n j (by omega) (by omega)), xor_mid,
          fm_assoc _ _ _ hd (finv_lt _), fm_comm (finv (u n ^^^ v j)) _ (finv_lt _) (finv_lt _), ← fm_assoc (u i ^^^ u n) _ _ hui hd, fm_comm (u i ^^^ u n) _ hui hd, fm_assoc _ _ _ hd hui]
      rcases (fm_eq_zero _ _ hui (xs_lt (fun j hj => fm_lt _ _ (fm_lt _ _ (dlt j hj))))).mp e4 with h0 | h0
      · exact absurd (iu i n (by omega) (by omega) ((xor_eq_zero_iff _ _).mp h0)) (by omega)
      · exact h0
    have z := ih (fun j => fm (fm (v j ^^^ v n) (c j)) (finv (u n ^^^ v j))) u v (fun j hj => fm_lt _ _ (dlt j hj)) (fun i hi => hu i (by omega)) (fun i hi => hv i (by omega)) (fun i j hi hj => iu i j (by omega) (by omega)) (fun i j hi hj => iv i j (by omega) (by omega)) (fun i j hi hj => huv i j (by omega) (by omega)) sub
    have zc : ∀ j, j < n → c j = 0 := fun j hj => by
      have hv2 : v j ^^^ v n < 256 := xor_lt _ _ (hv j (by omega)) (hv n (by omega))
      rcases (fm_eq_zero _ _ (dlt j hj) (finv_lt _)).mp (z j hj) with h0 | h0
      · rcases (fm_eq_zero _ _ hv2 (hc j (by omega))).mp h0 with h1 | h1
        · exact absurd (iv j n (by omega) (by omega) ((xor_eq_zero_iff _ _).mp h1)) (by omega)
        · exact h1
      · exact absurd h0 (finv_ne (lt n j (by omega) (by omega)) (ne n j (by omega) (by omega)))
    intro j hj
    by_cases e : j = n
    · subst e
      have e1 := h j hj
      have e2 : xs (fun l => fm (c l) (finv (u j ^^^ v l))) j = 0 := xs_zero (fun l hl => by rw [zc l hl, zero_fm])
      have e3 : fm (c j) (finv (u j ^^^ v j)) = 0 := by
        have : xs (fun l => fm (c l) (finv (u j ^^^ v l))) j ^^^ fm (c j) (finv (u j ^^^ v j)) = 0 := by simpa [xs] using e1
        rwa [e2, Nat.zero_xor] at this
      rcases (fm_eq_zero _ _ (hc j hj) (finv_lt _)).mp e3 with h0 | h0
      · exact h0
      · exact absurd h0 (finv_ne (lt j j hj hj) (ne j j hj hj))
    · exact zc j (by omega)
end Go.Proofs.Ytblfldjlehjnbaa

namespace Go.Proofs.Ytblfldjlehjnbaa
/-- A sum of which only some are not 0. -/
theorem xs_nth (P : Nat → Bool) (f : Nat → Nat) : ∀ n, (∀ j, j < n → P j = false → f j = 0) → xs f n = xs (fun t => f (nth P n t)) (cnt P n) := by
  intro n
  induction n with
  | zero => intro _; rfl
  | succ n ih =>
    intro h
    have e := ih (fun j hj => h j (by omega))
    have hlow : ∀ t, t < cnt P n → f (nth P (n + 1) t) = f (nth P n t) := fun t ht => by
      show f (if P n = true ∧ t = cnt P n then n else nth P n t) = _
      rw [if_neg (by omega)]
    cases hp : P n with
    | false =>
      rw [cnt_no hp, xs_congr hlow, ← e]
      show xs f n ^^^ f n = _
      rw [h n (by omega) hp, Nat.xor_zero]
    | true =>
      rw [cnt_yes hp]
      show xs f n ^^^ f n = xs (fun t => f (nth P (n + 1) t)) (cnt P n) ^^^ f (nth P (n + 1) (cnt P n))
      rw [xs_congr hlow, ← e]
      congr 1
      show f n = f (if P n = true ∧ cnt P n = cnt P n then n else nth P n (cnt P n))
      rw [if_pos ⟨hp, rfl⟩]
/-- Cauchy's matrix of r and c unlike elements. -/
def cau (u v : Nat → Nat) (r c i j : Nat) : Nat := if i < r ∧ j < c then finv (u i ^^^ v j) else 0
theorem cau_el (u v : Nat → Nat) (r c : Nat) : El2 (cau u v r c) := fun i j => by unfold cau; split; exact finv_lt _; decide
theorem cau_at {u v : Nat → Nat} {r c i j : Nat} (hi : i < r) (hj : j < c) : cau u v r c i j = finv (u i ^^^ v j) := if_pos ⟨hi, hj⟩
theorem cau_rk {u v : Nat → Nat} {r c : Nat} (hu : ∀ i, i < r → u i < 256) (hv : ∀ j, j < c → v j < 256) (iu : ∀ i j, i < r → j < r → u i = u j → i = j) (iv : ∀ i j, i < c → j < c → v i = v j → i = j) (huv : ∀ i j, i < r → j < c → u i ≠ v j) : Rk (cau u v r c) r (min r c) := by
  by_cases h : c ≤ r
  · rw [Nat.min_eq_right h]
    refine rk_of_ker (cau_el u v r c) (fun i j _ hj => if_neg (by omega)) (fun x hx hz => ?_)
    refine cauchy_zero c x u v (fun j _ => hx j) (fun i hi => hu i (by omega)) hv (fun i j hi hj => iu i j (by omega) (by omega)) iv (fun i j hi hj => huv i j (by omega) hj) (fun i hi => ?_)
    rw [← hz i (by omega)]
    exact xs_congr (fun t ht => by rw [cau_at (by omega) ht, fm_comm _ _ (hx t) (finv_lt _)])
  · rw [Nat.min_eq_left (by omega)]
    refine ⟨cau u v r c, cau_el u v r c, fun a ha hz => ?_, SpEq.refl (cau_el u v r c) r⟩
    refine cauchy_zero r a v u (fun j _ => ha j) (fun i hi => hv i (by omega)) hu (fun i j hi hj => iv i j (by omega) (by omega)) iu (fun i j hi hj => Ne.symm (huv j i hj (by omega))) (fun i hi => ?_)
    rw [← hz i]
    exact xs_congr (fun t ht => by rw [cau_at ht (by omega), Nat.xor_comm])
/-- The identity above Cauchy's matrix of the columns' numbers and the rows'. -/
def crs (k i j : Nat) : Nat := if i < k then dl i j else finv (i ^^^ j)
theorem crs_el (k : Nat) : El2 (crs k) := fun i j => by unfold crs; split; exact dl_el i j; exact finv_lt _
theorem crs_ker {k n : Nat} {q : Nat → Nat} (hk : k ≤ 256) (hn : n ≤ 256) (hq : ∀ i, i < k → q i < n) (hi : ∀ i j, i < k → j < k → q i = q j → i = j) {x : Nat → Nat} (hx : El x) (h : ∀ i, i < k → dt (crs k (q i)) x k = 0) : ∀ j, j < k → x j = 0 := by
  have low : ∀ j, j < k → pvt q k j = true → x j = 0 := fun j hj hp => by
    obtain ⟨i, hik, e⟩ := (pvt_iff q k j).mp hp
    have h1 := h i hik
    rw [e] at h1
    rw [← h1]
    have : dt (crs k j) x k = fm (crs k j j) (x j) := xs_one hj (fun t _ hne => by
      show fm (crs k j t) (x t) = 0
      unfold crs
      rw [if_pos hj, dl_ne hne, zero_fm])
    rw [this]
    unfold crs
    rw [if_pos hj, dl_self, one_fm _ (hx j)]
  obtain ⟨fr, hfr⟩ : ∃ P : Nat → Bool, P = fun j => !pvt q k j := ⟨_, rfl⟩
  obtain ⟨B, hB⟩ : ∃ P : Nat → Bool, P = fun i => decide (k ≤ q i) := ⟨_, rfl⟩
  have le : cnt fr k ≤ cnt B k := by
    have h1 := cnt_not (pvt q k) k
    have h2 := cnt_not B k
    rw [← hfr] at h1
    have h3 : cnt (fun i => !B i) k ≤ cnt (pvt q k) k := by
      have key : ∀ s, s < cnt (fun i => !B i) k → nth (fun i => !B i) k s < k ∧ q (nth (fun i => !B i) k s) < k ∧ pvt q k (q (nth (fun i => !B i) k s)) = true ∧ cnt (fun i => !B i) (nth (fun i => !B i) k s) = s := fun s hs => by
        obtain ⟨a1, a2, a3⟩ := nth_spec (fun i => !B i) k s hs
        refine ⟨a1, ?_, (pvt_iff q k _).mpr ⟨_, a1, rfl⟩, a3⟩
        generalize nth (fun i => !B i) k s = z at a2
        rw [hB] at a2
        simp at a2
        exact a2
      refine pigeon (cnt (pvt q k) k) _ (fun s => cnt (pvt q k) (q (nth (fun i => !B i) k s))) (fun s hs => cnt_lt (key s hs).2.1 (key s hs).2.2.1) (fun s t hs ht e => ?_)
      obtain ⟨a1, a2, a3, a4⟩ := key s hs
      obtain ⟨b1, b2, b3, b4⟩ := key t ht
      have e1 : q (nth (fun i => !B i) k s) = q (nth (fun i => !B i) k t) := by
        rw [← nth_cnt a2 a3, ← nth_cnt b2 b3]
        exact congrArg _ e
      have e2 := hi _ _ a1 b1 e1
      rw [← a4, ← b4, e2]
    omega
  have sB : ∀ s, s < cnt B k → nth B k s < k ∧ k ≤ q (nth B k s) ∧ cnt B (nth B k s) = s := fun s hs => by
    obtain ⟨a1, a2, a3⟩ := nth_spec B k s hs
    refine ⟨a1, ?_, a3⟩
    generalize nth B k s = z at a2
    rw [hB] at a2
    simpa using a2
  have sF : ∀ t, t < cnt fr k → nth fr k t < k ∧ cnt fr (nth fr k t) = t := fun t ht => ⟨(nth_spec fr k t ht).1, (nth_spec fr k t ht).2.2⟩
  have z := cauchy_zero (cnt fr k) (fun t => x (nth fr k t)) (fun s => q (nth B k s)) (fun t => nth fr k t) (fun t _ => hx _) (fun s hs => by have := hq _ (sB s (by omega)).1; omega) (fun t ht => by have := (sF t ht).1; omega)
    (fun s t hs ht e => by
      have e2 := hi _ _ (sB s (by omega)).1 (sB t (by omega)).1 e
      rw [← (sB s (by omega)).2.2, ← (sB t (by omega)).2.2, e2])
    (fun s t hs ht e => by rw [← (sF s hs).2, ← (sF t ht).2]; exact congrArg _ e)
    (fun s t hs ht e => by have := (sB s (by omega)).2.1; have := (sF t ht).1; omega)
    (fun s hs => by
      obtain ⟨a1, a2, _⟩ := sB s (by omega)
      rw [← h _ a1]
      unfold dt
      rw [xs_nth fr (fun j => fm (crs k (q (nth B k s)) j) (x j)) k (fun j hj hf => by
        have : pvt q k j = true := by rw [hfr] at hf; simpa using hf
        rw [low j hj this, fm_zero])]
      refine xs_congr (fun t ht => ?_)
      unfold crs
      rw [if_neg (by omega), fm_comm _ _ (hx _) (finv_lt _)])
  intro j hj
  cases hp : pvt q k j with
  | true => exact low j hj hp
  | false =>
    have hf : fr j = true := by rw [hfr]; simp [hp]
    have := z (cnt fr j) (cnt_lt hj hf)
    rwa [nth_cnt hj hf] at this
/-- What a product's row does. -/
theorem dt_pr {A B : Nat → Nat → Nat} (hA : El2 A) (hB : El2 B) (n c i : Nat) (x : Nat → Nat) : dt (pr A B n i) x c = dt (A i) (fun t => dt (B t) x c) n := dt_lc (hA i) hB n x c
theorem dt_dl {k j : Nat} (hj : j < k) {x : Nat → Nat} (hx : El x) : dt (dl j) x k = x j := by
  have : dt (dl j) x k = fm (dl j j) (x j) := xs_one hj (fun t _ hne => by show fm (dl j t) (x t) = 0; rw [dl_ne hne, zero_fm])
  rw [this, dl_self, one_fm _ (hx j)]
/-- Rows that send nothing else to nothing do so behind an inverse of the first ones. -/
theorem sys_ker {V X : Nat → Nat → Nat} (hV : El2 V) (hX : El2 X) {k : Nat} {q : Nat → Nat} (hq : ∀ x, El x → (∀ i, i < k → dt (V (q i)) x k = 0) → ∀ j, j < k → x j = 0) (hI : ∀ i j, i < k → j < k → pr V X k i j = dl i j) {x : Nat → Nat} (hx : El x) (h : ∀ i, i < k → dt (pr V X k (q i)) x k = 0) : ∀ j, j < k → x j = 0 := fun j hj => by
  have hz := hq (fun t => dt (X t) x k) (fun t => dt_lt (hX t) x k) (fun i hi => by rw [← dt_pr hV hX]; exact h i hi)
  rw [← dt_dl hj hx, ← dt_congr (fun l hl => hI j l hj hl), dt_pr hV hX]
  exact dt_zero _ hz
/-- What all of the kernel's rows send to nothing is a combination of the rows. -/
theorem chk_span {R : Nat → Nat → Nat} (hR : El2 R) {r k c : Nat} {p : Nat → Nat} (h : Rdf R r k p) (hc : ∀ i, i < k → p i < c) (hcut : ∀ i j, i < r → c ≤ j → R i j = 0) {y : Nat → Nat} (hy : El y) (h0 : ∀ j, c ≤ j → y j = 0) (hk : ∀ f, f < c → pvt p k f = false → dt (kv R p k f) y c = 0) : Spn R r y := by
  refine ⟨fun t => if t < k then y (p t) else 0, fun t => ite_lt _ _ (hy _), fun j => ?_⟩
  rw [h.short]
  have e : lc (fun t => if t < k then y (p t) else 0) R k j = lc (fun t => y (p t)) R k j := lc_congr (fun i hi => if_pos hi) (fun _ _ => rfl)
  rw [e]
  by_cases hj : c ≤ j
  · rw [h0 j hj]
    exact (xs_zero (fun i hi => by rw [hcut i j (by have := h.kr; omega) hj, fm_zero])).symm
  · cases hp : pvt p k j with
    | true =>
      obtain ⟨t, ht, rfl⟩ := (pvt_iff p k j).mp hp
      exact (h.coord (fun _ => hy _) ht).symm
    | false =>
      have e1 := hk j (by omega) hp
      have e2 : dt (kv R p k j) y c = y j ^^^ dt (pp p k (fun i => R i j)) y c := by
        have : ∀ l, l < c → fm (kv R p k j l) (y l) = fm (dl j l) (y l) ^^^ fm (pp p k (fun i => R i j) l) (y l) := fun l _ => by
          unfold kv
          by_cases el : l = j
          · subst el
            rw [if_pos rfl, dl_self, pp_free _ hp, zero_fm, Nat.xor_zero]
          · rw [if_neg el, dl_ne el, zero_fm, Nat.zero_xor]
        unfold dt
        rw [xs_congr this, xs_add]
        congr 1
        exact dt_dl (by omega) hy
      rw [e2] at e1
      have e3 := (xor_eq_zero_iff _ _).mp e1
      rw [e3]
      have e4 : dt (pp p k (fun i => R i j)) y c = dt y (pp p k (fun i => R i j)) c := xs_congr (fun l _ => fm_comm _ _ (pp_el p k (fun i => hR i j) l) (hy l))
      rw [e4, dt_pp hy hc]
      rfl
theorem chk_span' {R : Nat → Nat → Nat} (hR : El2 R) {r k c : Nat} {p : Nat → Nat} (h : Rdf R r k p) (hc : ∀ i, i < k → p i < c) {y : Nat → Nat} (hy : Spn R r y) {f : Nat} (hf : f < c) (hp : pvt p k f = false) : dt (kv R p k f) y c = 0 := by
  have e : dt (kv R p k f) y c = dt y (kv R p k f) c := xs_congr (fun l _ => fm_comm _ _ (kv_el hR p k f l) (hy.el l))
  rw [e]
  exact dt_span hR hy (h.kv hR hc hp hf)
end Go.Proofs.Ytblfldjlehjnbaa
