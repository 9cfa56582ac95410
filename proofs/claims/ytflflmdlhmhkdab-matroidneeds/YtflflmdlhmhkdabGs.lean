/-
  Degrees, values, roots and divisors of polynomials: no Go in sight.
  What a check's rows tell.
  Choices of k of n, one after the other.
  How many choices of k of n there are.
  Sets of numbers, each as a number whose bits say what it has: how many there are, which place each has, and which one is next. No Go in sight.
  Lists of numbers in memory, of any kind of number; what stays.
  Contracts of the sets' plain calls: Has, first, Full, isSetOf, portion.
  How many bits are set: math/bits.OnesCount64, and Count.
  Contracts of Choose and Upto.
  Contracts of Place and At.
  The checks' own anchor: one place and one number that the document fixes.
  Contract of Next.
  Contracts of the sets' reference: Full, pascal, Choose, Upto.
  Contracts of the sets' reference: Choose, Upto.
  Contracts of Of, List and the reference's; two lists alike.
  Contracts of List and the reference's; two lists alike.
  The reference's Next: what its loop knows; of.
-/
import Derived.Test.YtflflmdlhmhkdabGb
import Derived.Test.YtflflmdlhmhkdabGd
import Derived.Test.YtflflmdlhmhkdabGa
import Derived.Test.YtflflmdlhmhkdabRows
import Derived.WalkKit
import Derived.WalkSpells
import Derived.WalkLawsBesides
import Derived.ProofKit
import Derived.OwnWalk
import Derived.Deep.QuietTactic
import Derived.BigQuiet
import Derived.RegionTactic
import Derived.Lib.MinMax
import Derived.WalkMore
import Derived.ScopeJumps
namespace Go.Proofs.Ytflflmdlhmhkdab

/-- No coefficient from n on. -/
def Above (n : Nat) (p : Nat → Nat) : Prop := ∀ i, n ≤ i → p i = 0
theorem Above.mono {n m : Nat} {p : Nat → Nat} (h : Above n p) (hnm : n ≤ m) : Above m p := fun i hi => h i (by omega)
theorem Above.pa {n : Nat} {p q : Nat → Nat} (hp : Above n p) (hq : Above n q) : Above n (pa p q) := fun i hi => by
  show p i ^^^ q i = 0
  rw [hp i hi, hq i hi]; rfl
theorem pm_above {n m : Nat} {p q : Nat → Nat} (hp : Above n p) (hq : Above m q) (i : Nat) (hi : n + m ≤ i + 1) : pm p q i = 0 := by
  refine xs_zero (fun k _ => ?_)
  by_cases h : n ≤ k
  · rw [hp k h, zero_fm]
  · rw [hq (i - k) (by omega), fm_zero]
theorem Above.pm {n m : Nat} {p q : Nat → Nat} (hp : Above n p) (hq : Above m q) : Above (n + m) (pm p q) := fun i hi => pm_above hp hq i (by omega)
theorem pm_top {n m : Nat} {p q : Nat → Nat} (hp : Above (n + 1) p) (hq : Above (m + 1) q) : pm p q (n + m) = fm (p n) (q m) := by
  unfold Go.Proofs.Ytflflmdlhmhkdab.pm
  rw [xs_one (k0 := n) (by omega) (fun k _ hk => ?_)]
  · rw [show n + m - n = m by omega]
  · by_cases h : n < k
    · rw [hp k (by omega), zero_fm]
    · rw [hq (n + m - k) (by omega), fm_zero]
theorem top_exists {N : Nat} {p : Nat → Nat} (h : Above N p) : (∀ i, p i = 0) ∨ ∃ n, n < N ∧ p n ≠ 0 ∧ Above (n + 1) p := by
  induction N with
  | zero => exact .inl (fun i => h i (by omega))
  | succ N ih =>
    by_cases e : p N = 0
    · have h' : Above N p := fun i hi => by
        by_cases ei : i = N
        · rw [ei]; exact e
        · exact h i (by omega)
      rcases ih h' with h0 | ⟨n, hn, h1, h2⟩
      · exact .inl h0
      · exact .inr ⟨n, by omega, h1, h2⟩
    · exact .inr ⟨N, by omega, e, h⟩
theorem xor_eq_zero_iff (a b : Nat) : a ^^^ b = 0 ↔ a = b := by
  constructor
  · intro h
    have : a ^^^ b ^^^ b = 0 ^^^ b := by rw [h]
    rw [Nat.xor_assoc, Nat.xor_self, Nat.xor_zero, Nat.zero_xor] at this
    exact this
  · rintro rfl; exact Nat.xor_self a
/-- A product with q, whose highest coefficient stands at m, reaches m only if the factor is 0. -/
theorem pm_low {N m : Nat} {e q : Nat → Nat} (he : El e) (hq : El q) (hN : Above N e) (hm : Above (m + 1) q) (h0 : q m ≠ 0) (h : ∀ i, m ≤ i → pm e q i = 0) : ∀ i, e i = 0 := by
  rcases top_exists hN with h1 | ⟨n, _, h1, h2⟩
  · exact h1
  · have := h (n + m) (by omega)
    rw [pm_top h2 hm, fm_eq_zero _ _ (he n) (hq m)] at this
    rcases this with h3 | h3
    · exact absurd h3 h1
    · exact absurd h3 h0
/-- Quotient and remainder are the only ones. -/
theorem div_unique {N m : Nat} {a c q b d : Nat → Nat} (ha : El a) (hc : El c) (hq : El q) (hNa : Above N a) (hNc : Above N c) (hm : Above (m + 1) q) (h0 : q m ≠ 0) (hb : Above m b) (hd : Above m d)
    (h : ∀ i, pa (pm a q) b i = pa (pm c q) d i) : (∀ i, a i = c i) ∧ ∀ i, b i = d i := by
  have key : ∀ i, pm (pa a c) q i = b i ^^^ d i := by
    intro i
    rw [pa_pm q ha hc]
    have hi := h i
    unfold pa at *
    have : pm a q i ^^^ b i ^^^ (pm c q i ^^^ b i) = pm c q i ^^^ d i ^^^ (pm c q i ^^^ b i) := by rw [hi]
    rw [xor4, Nat.xor_self, Nat.xor_zero, xor4, Nat.xor_self, Nat.zero_xor, Nat.xor_comm (d i)] at this
    exact this
  have hz := pm_low (pa_el ha hc) hq (hNa.pa hNc) hm h0 (fun i hi => by rw [key i, hb i hi, hd i hi]; rfl)
  have hac : ∀ i, a i = c i := fun i => (xor_eq_zero_iff _ _).mp (hz i)
  refine ⟨hac, fun i => ?_⟩
  have k := key i
  have z : pm (pa a c) q i = 0 := xs_zero (fun k _ => by rw [hz k, zero_fm])
  rw [z] at k
  exact (xor_eq_zero_iff _ _).mp k.symm

/-! ### Values -/
theorem fpow_add (x a b : Nat) : fpow x (a + b) = fm (fpow x a) (fpow x b) := by
  induction b with
  | zero => rw [Nat.add_zero]; simp only [fpow]; rw [fm_one _ (fpow_lt x a)]
  | succ b ih => rw [← Nat.add_assoc]; simp only [fpow]; rw [ih, fm_assoc _ _ _ (fpow_lt x a) (fpow_lt x b)]
/-- The value of a polynomial of n coefficients at x. -/
def ev (p : Nat → Nat) (n x : Nat) : Nat := xs (fun i => fm (p i) (fpow x i)) n
theorem ev_lt {p : Nat → Nat} (hp : El p) (n x : Nat) : ev p n x < 256 := xs_lt (fun k _ => fm_lt _ _ (hp k))
theorem ev_ext {p : Nat → Nat} {n m : Nat} (hp : Above n p) (h : n ≤ m) (x : Nat) : ev p m x = ev p n x :=
  xs_ext h (fun k h1 _ => by rw [hp k h1, zero_fm])
theorem ev_congr {p q : Nat → Nat} {n : Nat} (h : ∀ i, i < n → p i = q i) (x : Nat) : ev p n x = ev q n x := xs_congr (fun k hk => by rw [h k hk])
theorem ev_pa {p q : Nat → Nat} (hp : El p) (hq : El q) (n x : Nat) : ev (pa p q) n x = ev p n x ^^^ ev q n x := by
  unfold ev
  rw [← xs_add]
  exact xs_congr (fun k _ => xor_fm _ _ _ (hp k) (hq k))
theorem ev_pm {p q : Nat → Nat} {n m x : Nat} (hp : El p) (hq : El q) (hn : Above n p) (hm : Above m q) : ev (pm p q) (n + m) x = fm (ev p n x) (ev q m x) := by
  have e1 : ev (pm p q) (n + m) x = xs (fun i => xs (fun a => xs (fun b => if a + b = i then fm (fm (p a) (q b)) (fpow x i) else 0) (n + m)) (n + m)) (n + m) := by
    refine xs_congr (fun i hi => ?_)
    rw [pm_pairs p q i (n + m) hi, xs_mul_r _ _ _ (fun a _ => xs_lt (fun b _ => ite_lt _ _ (fm_lt _ _ (hp a))))]
    refine xs_congr (fun a _ => ?_)
    rw [xs_mul_r _ _ _ (fun b _ => ite_lt _ _ (fm_lt _ _ (hp a)))]
    exact xs_congr (fun b _ => fm_ite _ _ _)
  rw [e1, xs_swap]
  have e2 : ∀ a, a < n + m → xs (fun i => xs (fun b => if a + b = i then fm (fm (p a) (q b)) (fpow x i) else 0) (n + m)) (n + m) = xs (fun b => fm (fm (p a) (fpow x a)) (fm (q b) (fpow x b))) (n + m) := by
    intro a ha
    rw [xs_swap]
    refine xs_congr (fun b hb => ?_)
    by_cases h : a + b < n + m
    · rw [xs_one (k0 := a + b) h (fun i _ hi => if_neg (by omega)), if_pos rfl, fpow_add x a b]
      rw [fm_assoc _ _ _ (hp a) (hq b), fm_assoc _ _ _ (hp a) (fpow_lt x a)]
      rw [← fm_assoc (q b) _ _ (hq b) (fpow_lt x a), fm_comm (q b) _ (hq b) (fpow_lt x a), fm_assoc _ _ _ (fpow_lt x a) (hq b)]
    · rw [xs_zero (fun i hi => if_neg (by omega))]
      by_cases h2 : n ≤ a
      · rw [hn a h2, zero_fm, zero_fm]
      · rw [hm b (by omega), zero_fm, fm_zero]
  rw [xs_congr e2]
  rw [← ev_ext hn (by omega : n ≤ n + m) x, ← ev_ext hm (by omega : m ≤ n + m) x]
  unfold ev
  rw [xs_mul_r _ _ _ (fun k _ => fm_lt _ _ (hp k))]
  exact xs_congr (fun a _ => (xs_mul_l _ _ _).symm)

/-! ### Roots -/
/-- x and r. -/
def lin (r : Nat) (i : Nat) : Nat := if i = 0 then r else if i = 1 then 1 else 0
theorem lin_el {r : Nat} (h : r < 256) : El (lin r) := fun i => by unfold lin; split; exact h; split <;> decide
theorem lin_above (r : Nat) : Above 2 (lin r) := fun i hi => by unfold lin; rw [if_neg (by omega), if_neg (by omega)]
theorem ev_lin (r x : Nat) (hr : r < 256) (hx : x < 256) : ev (lin r) 2 x = r ^^^ x := by
  simp only [ev, xs, lin, fpow, Nat.zero_xor]
  simp only [if_true, if_neg (show ¬ 1 = 0 by decide)]
  rw [fm_one r hr, one_fm x hx, one_fm x hx]
theorem lin_pm (r : Nat) (q : Nat → Nat) (hq : El q) : (∀ i, pm (lin r) q (i + 1) = fm r (q (i + 1)) ^^^ q i) ∧ pm (lin r) q 0 = fm r (q 0) := by
  constructor
  · intro i
    have z : xs (fun k => fm (lin r (k + 1 + 1)) (q (i + 1 - (k + 1 + 1)))) i = 0 := xs_zero (fun k _ => by
      rw [show lin r (k + 1 + 1) = 0 from lin_above r _ (by omega), zero_fm])
    unfold pm
    rw [xs_front, xs_front, z, Nat.xor_zero]
    show fm (lin r 0) (q (i + 1 - 0)) ^^^ fm (lin r 1) (q (i + 1 - 1)) = _
    rw [show lin r 0 = r from rfl, show lin r 1 = 1 from rfl, Nat.sub_zero, Nat.add_sub_cancel, one_fm _ (hq i)]
  · simp only [pm, xs, Nat.zero_xor]
    rfl
/-- A root splits off a factor. -/
theorem factor {n : Nat} {p : Nat → Nat} {r : Nat} (hp : El p) (hr : r < 256) (hn : Above (n + 1) p) (h0 : ev p (n + 1) r = 0) : ∃ q, El q ∧ Above n q ∧ ∀ i, p i = pm (lin r) q i := by
  -- q i: the sum of p (i + 1 + j) times r to the power j
  refine ⟨fun i => xs (fun j => fm (p (i + 1 + j)) (fpow r j)) (n - i), fun i => xs_lt (fun k _ => fm_lt _ _ (hp _)), fun i hi => by show xs _ (n - i) = 0; rw [show n - i = 0 by omega]; rfl, ?_⟩
  have hel : El (fun i => xs (fun j => fm (p (i + 1 + j)) (fpow r j)) (n - i)) := fun i => xs_lt (fun k _ => fm_lt _ _ (hp _))
  have step : ∀ i k, fm r (xs (fun j => fm (p (i + 1 + j)) (fpow r j)) k) = xs (fun j => fm (p (i + 1 + j)) (fpow r (j + 1))) k := by
    intro i k
    rw [xs_mul_l]
    refine xs_congr (fun j _ => ?_)
    simp only [fpow]
    rw [← fm_assoc r _ _ hr (hp _), fm_comm r _ hr (hp _), fm_assoc _ _ _ (hp _) hr, fm_comm r _ hr (fpow_lt r j)]
  have head : ∀ i k, xs (fun j => fm (p (i + j)) (fpow r j)) (k + 1) = p i ^^^ xs (fun j => fm (p (i + 1 + j)) (fpow r (j + 1))) k := by
    intro i k
    rw [xs_front]
    show fm (p (i + 0)) (fpow r 0) ^^^ _ = _
    rw [show fpow r 0 = 1 from rfl, Nat.add_zero, fm_one _ (hp i)]
    congr 1
    refine xs_congr (fun j _ => ?_)
    rw [show i + (j + 1) = i + 1 + j by omega]
  intro i
  cases i with
  | zero =>
    rw [(lin_pm r _ hel).2]
    show p 0 = fm r (xs (fun j => fm (p (0 + 1 + j)) (fpow r j)) (n - 0))
    rw [step, Nat.sub_zero]
    have e := head 0 n
    have e2 : xs (fun j => fm (p (0 + j)) (fpow r j)) (n + 1) = 0 := by
      exact (xs_congr (fun k _ => by rw [Nat.zero_add])).trans h0
    rw [e2] at e
    exact (xor_eq_zero_iff _ _).mp e.symm
  | succ i =>
    rw [(lin_pm r _ hel).1 i]
    show p (i + 1) = fm r (xs (fun j => fm (p (i + 1 + 1 + j)) (fpow r j)) (n - (i + 1))) ^^^ xs (fun j => fm (p (i + 1 + j)) (fpow r j)) (n - i)
    rw [step]
    by_cases h : i < n
    · rw [show n - i = n - (i + 1) + 1 by omega, head (i + 1) (n - (i + 1)), Nat.xor_comm (p (i + 1)), ← Nat.xor_assoc, Nat.xor_self, Nat.zero_xor]
    · rw [show n - (i + 1) = 0 by omega, show n - i = 0 by omega, hn (i + 1) (by omega)]
      simp [xs]
/-- n roots, all unlike, of a polynomial with n coefficients: it is 0. -/
theorem roots_zero (n : Nat) : ∀ (p rt : Nat → Nat), El p → Above n p → (∀ k, k < n → rt k < 256) → (∀ j k, j < n → k < n → rt j = rt k → j = k) → (∀ k, k < n → ev p n (rt k) = 0) → ∀ i, p i = 0 := by
  induction n with
  | zero => intro p rt _ ha _ _ _ i; exact ha i (by omega)
  | succ n ih =>
    intro p rt hp ha hb hi hr i
    obtain ⟨q, hq, hqa, hpq⟩ := factor hp (hb n (by omega)) ha (hr n (by omega))
    have hz : ∀ i, q i = 0 := by
      refine ih q rt hq hqa (fun k hk => hb k (by omega)) (fun j k hj hk => hi j k (by omega) (by omega)) (fun k hk => ?_)
      have e := hr k (by omega)
      have e2 : ev p (2 + n) (rt k) = 0 := by rw [ev_ext ha (by omega)]; exact e
      rw [ev_congr (q := pm (lin (rt n)) q) (fun i _ => hpq i), ev_pm (lin_el (hb n (by omega))) hq (lin_above _) hqa, ev_lin _ _ (hb n (by omega)) (hb k (by omega))] at e2
      rcases (fm_eq_zero _ _ (xor_lt _ _ (hb n (by omega)) (hb k (by omega))) (ev_lt hq _ _)).mp e2 with h | h
      · have := hi n k (by omega) (by omega) ((xor_eq_zero_iff _ _).mp h)
        omega
      · exact h
    rw [hpq i]
    exact xs_zero (fun k _ => by rw [hz, fm_zero])
end Go.Proofs.Ytflflmdlhmhkdab

namespace Go.Proofs.Ytflflmdlhmhkdab
theorem dt_dl {k j : Nat} (hj : j < k) {x : Nat → Nat} (hx : El x) : dt (dl j) x k = x j := by
  have : dt (dl j) x k = fm (dl j j) (x j) := xs_one hj (fun t _ hne => by show fm (dl j t) (x t) = 0; rw [dl_ne hne, zero_fm])
  rw [this, dl_self, one_fm _ (hx j)]
/-- What all of the kernel's rows send to nothing is a combination of the rows. -/
theorem chk_span {R : Nat → Nat → Nat} (hR : El2 R) {r k c : Nat} {p : Nat → Nat} (h : Rdf R r k p) (hc : ∀ i, i < k → p i < c) (hcut : ∀ i j, i < r → c ≤ j → R i j = 0) {y : Nat → Nat} (hy : El y) (h0 : ∀ j, c ≤ j → y j = 0) (hk : ∀ f, f < c → pvt p k f = false → dt (kv R p k f) y c = 0) : Spn R r y := by
  refine ⟨fun t => if t < k then y (p t) else 0, fun t => ite_lt _ _ (hy _), fun j => ?_⟩
  rw [h.short]
  have e : lc (fun t => if t < k then y (p t) else 0) R k j = lc (fun t => y (p t)) R k j := lc_congr (fun i hi => if_pos hi) (fun _ _ => rfl)
  rw [e]
  by_cases hj : c ≤ j
  · rw [h0 j hj]
    exact (xs_zero (fun i hi => by rw [hcut i j (by have := h.kr; omega) hj, fm_zero])).symm
  · cases hp : pvt p k j with
    | true =>
      obtain ⟨t, ht, rfl⟩ := (pvt_iff p k j).mp hp
      exact (h.coord (fun _ => hy _) ht).symm
    | false =>
      have e1 := hk j (by omega) hp
      have e2 : dt (kv R p k j) y c = y j ^^^ dt (pp p k (fun i => R i j)) y c := by
        have : ∀ l, l < c → fm (kv R p k j l) (y l) = fm (dl j l) (y l) ^^^ fm (pp p k (fun i => R i j) l) (y l) := fun l _ => by
          unfold kv
          by_cases el : l = j
          · subst el
            rw [if_pos rfl, dl_self, pp_free _ hp, zero_fm, Nat.xor_zero]
          · rw [if_neg el, dl_ne el, zero_fm, Nat.zero_xor]
        unfold dt
        rw [xs_congr this, xs_add]
        congr 1
        exact dt_dl (by omega) hy
      rw [e2] at e1
      have e3 := (xor_eq_zero_iff _ _).mp e1
      rw [e3]
      have e4 : dt (pp p k (fun i => R i j)) y c = dt y (pp p k (fun i => R i j)) c := xs_congr (fun l _ => fm_comm _ _ (pp_el p k (fun i => hR i j) l) (hy l))
      rw [e4, dt_pp hy hc]
      rfl
theorem chk_span' {R : Nat → Nat → Nat} (hR : El2 R) {r k c : Nat} {p : Nat → Nat} (h : Rdf R r k p) (hc : ∀ i, i < k → p i < c) {y : Nat → Nat} (hy : Spn R r y) {f : Nat} (hf : f < c) (hp : pvt p k f = false) : dt (kv R p k f) y c = 0 := by
  have e : dt (kv R p k f) y c = dt y (kv R p k f) c := xs_congr (fun l _ => fm_comm _ _ (kv_el hR p k f l) (hy.el l))
  rw [e]
  exact dt_span hR hy (h.kv hR hc hp hf)
end Go.Proofs.Ytflflmdlhmhkdab

namespace Go.Proofs.Ytflflmdlhmhkdab
/-- k numbers below n, rising. -/
def Inc (q : Nat → Nat) (k n : Nat) : Prop := (∀ i t, i < t → t < k → q i < q t) ∧ ∀ i, i < k → q i < n
/-- The choice as a number. -/
def vl (n : Nat) (q : Nat → Nat) : Nat → Nat
  | 0 => 0
  | k + 1 => vl n q k * n + q k
theorem vl_le {n : Nat} {q s : Nat → Nat} {k : Nat} (h : ∀ i, i < k → q i ≤ s i) : vl n q k ≤ vl n s k := by
  induction k with
  | zero => exact Nat.le_refl _
  | succ k ih => exact Nat.add_le_add (Nat.mul_le_mul_right n (ih (fun i hi => h i (by omega)))) (h k (by omega))
theorem vl_congr {n : Nat} {q s : Nat → Nat} {k : Nat} (h : ∀ i, i < k → q i = s i) : vl n q k = vl n s k :=
  Nat.le_antisymm (vl_le (fun i hi => Nat.le_of_eq (h i hi))) (vl_le (fun i hi => Nat.le_of_eq (h i hi).symm))
theorem vl_lex {n : Nat} {q s : Nat → Nat} {i : Nat} : ∀ {k : Nat}, i < k → (∀ t, t < i → q t = s t) → q i < s i → (∀ t, t < k → q t < n) → vl n q k < vl n s k := by
  intro k
  induction k with
  | zero => intro h; omega
  | succ k ih =>
    intro hi he hl hq
    show vl n q k * n + q k < vl n s k * n + s k
    by_cases e : i = k
    · subst e
      rw [vl_congr he]
      omega
    · have h1 := ih (by omega) he hl (fun t ht => hq t (by omega))
      have h2 := Nat.mul_le_mul_right n (show vl n q k + 1 ≤ vl n s k from h1)
      rw [Nat.add_mul, Nat.one_mul] at h2
      have := hq k (by omega)
      omega
theorem vl_first {n : Nat} {q s : Nat → Nat} : ∀ {k : Nat}, vl n q k < vl n s k → (∀ t, t < k → s t < n) → ∃ i, i < k ∧ (∀ t, t < i → q t = s t) ∧ q i < s i := by
  intro k h hs
  apply Classical.byContradiction
  intro hno
  have step : ∀ m, m ≤ k → (∀ t, t < m → q t = s t) ∨ ∃ i, i < m ∧ (∀ t, t < i → q t = s t) ∧ s i < q i := by
    intro m
    induction m with
    | zero => intro _; exact .inl (fun t ht => by omega)
    | succ m ih =>
      intro hm
      rcases ih (by omega) with h1 | ⟨i, a, b, c⟩
      · rcases Nat.lt_trichotomy (q m) (s m) with h2 | h2 | h2
        · exact absurd ⟨m, by omega, h1, h2⟩ hno
        · refine .inl (fun t ht => ?_)
          by_cases e : t = m
          · rw [e]; exact h2
          · exact h1 t (by omega)
        · exact .inr ⟨m, by omega, h1, h2⟩
      · exact .inr ⟨i, by omega, b, c⟩
  rcases step k (Nat.le_refl _) with h1 | ⟨i, a, b, c⟩
  · rw [vl_congr h1] at h; omega
  · have := vl_lex a (fun t ht => (b t ht).symm) c hs
    omega
theorem vl_same {n : Nat} {q s : Nat → Nat} {k : Nat} (hq : ∀ t, t < k → q t < n) (hs : ∀ t, t < k → s t < n) (h : vl n q k = vl n s k) : ∀ t, t < k → q t = s t := by
  intro t
  induction t using Nat.strongRecOn with
  | ind t ih =>
    intro ht
    rcases Nat.lt_trichotomy (q t) (s t) with h2 | h2 | h2
    · have := vl_lex ht (fun a ha => ih a ha (by omega)) h2 hq; omega
    · exact h2
    · have := vl_lex ht (fun a ha => (ih a ha (by omega)).symm) h2 hs; omega
theorem vl_lt {n : Nat} {q : Nat → Nat} : ∀ {k : Nat}, (∀ t, t < k → q t < n) → vl n q k < n ^ k := by
  intro k
  induction k with
  | zero => intro _; exact Nat.one_pos
  | succ k ih =>
    intro h
    have h1 := ih (fun t ht => h t (by omega))
    have h2 := Nat.mul_le_mul_right n (show vl n q k + 1 ≤ n ^ k from h1)
    rw [Nat.add_mul, Nat.one_mul] at h2
    have := h k (by omega)
    rw [Nat.pow_succ]
    show vl n q k * n + q k < _
    omega
theorem Inc.apart {q : Nat → Nat} {k n : Nat} (h : Inc q k n) {i : Nat} : ∀ d, i + d < k → q i + d ≤ q (i + d) := by
  intro d
  induction d with
  | zero => intro _; exact Nat.le_refl _
  | succ d ih =>
    intro hd
    have h1 := ih (by omega)
    have h2 := h.1 (i + d) (i + (d + 1)) (by omega) hd
    omega
theorem Inc.ge {q : Nat → Nat} {k n : Nat} (h : Inc q k n) {i : Nat} (hi : i < k) : i ≤ q i := by
  have := h.apart (i := 0) i (by omega)
  rw [Nat.zero_add] at this
  omega
theorem Inc.le {q : Nat → Nat} {k n : Nat} (h : Inc q k n) {i : Nat} (hi : i < k) : q i + k ≤ n + i := by
  have h1 := h.apart (i := i) (k - 1 - i) (by omega)
  have h2 := h.2 (i + (k - 1 - i)) (by omega)
  omega
theorem inc_first {k n : Nat} (h : k ≤ n) : Inc (fun i => i) k n := ⟨fun _ _ h _ => h, fun i hi => by show i < n; omega⟩
theorem Inc.first {s : Nat → Nat} {k n : Nat} (h : Inc s k n) : vl n (fun i => i) k ≤ vl n s k := vl_le (fun _ hi => h.ge hi)
theorem Inc.last {q s : Nat → Nat} {k n : Nat} (hs : Inc s k n) (hq : ∀ t, t < k → q t + k = n + t) : vl n s k ≤ vl n q k := vl_le (fun t ht => by have := hs.le ht; have := hq t ht; omega)
theorem vl_le_of {n : Nat} {q s : Nat → Nat} {i k : Nat} (hi : i < k) (he : ∀ t, t < i → s t = q t) (hl : s i ≤ q i) (hs : ∀ t, t < k → s t < n) (ht : ∀ t, i < t → t < k → s t ≤ q t) : vl n s k ≤ vl n q k := by
  by_cases e : s i = q i
  · refine vl_le (fun t htk => ?_)
    rcases Nat.lt_trichotomy t i with h1 | h1 | h1
    · exact Nat.le_of_eq (he t h1)
    · rw [h1]; exact hl
    · exact ht t h1 htk
  · exact Nat.le_of_lt (vl_lex hi he (by omega) hs)
/-- The next one: row i rises by one, and those behind it follow. -/
def nxt (q : Nat → Nat) (i t : Nat) : Nat := if t < i then q t else q i + 1 + (t - i)
theorem Inc.next {q : Nat → Nat} {k n i : Nat} (h : Inc q k n) (hi : i < k) (hl : q i + k < n + i) (hq : ∀ t, i < t → t < k → q t + k = n + t) :
    Inc (nxt q i) k n ∧ vl n q k < vl n (nxt q i) k ∧ ∀ s, Inc s k n → vl n s k < vl n (nxt q i) k → vl n s k ≤ vl n q k := by
  have lo : ∀ t, t < i → nxt q i t = q t := fun t ht => if_pos ht
  have hh : ∀ t, i ≤ t → nxt q i t = q i + 1 + (t - i) := fun t ht => if_neg (by omega)
  have hI : Inc (nxt q i) k n := by
    refine ⟨fun a t hat ht => ?_, fun t ht => ?_⟩
    · by_cases h1 : t < i
      · rw [lo a (by omega), lo t h1]
        exact h.1 a t hat ht
      · rw [hh t (by omega)]
        by_cases h2 : a < i
        · rw [lo a h2]
          have := h.1 a i h2 hi
          omega
        · rw [hh a (by omega)]
          omega
    · by_cases h1 : t < i
      · rw [lo t h1]; exact h.2 t ht
      · rw [hh t (by omega)]
        omega
  refine ⟨hI, vl_lex hi (fun t ht => (lo t ht).symm) (by rw [hh i (Nat.le_refl _)]; omega) h.2, fun s hs hlt => ?_⟩
  obtain ⟨d, hd, he, hsd⟩ := vl_first hlt hI.2
  rcases Nat.lt_trichotomy d i with h1 | h1 | h1
  · exact Nat.le_of_lt (vl_lex hd (fun t ht => by rw [he t ht, lo t (by omega)]) (by rw [lo d h1] at hsd; exact hsd) hs.2)
  · subst h1
    rw [hh d (Nat.le_refl _)] at hsd
    refine vl_le_of (q := q) hd (fun t ht => by rw [he t ht, lo t ht]) (by omega) hs.2 (fun t h1 h2 => ?_)
    have := hs.le h2
    have := hq t h1 h2
    omega
  · rw [hh d (by omega)] at hsd
    have h2 := he i h1
    rw [hh i (Nat.le_refl _)] at h2
    have h3 := hs.apart (i := i) (d - i) (by omega)
    rw [show i + (d - i) = d by omega] at h3
    omega
end Go.Proofs.Ytflflmdlhmhkdab

namespace Go.Proofs.Ytflflmdlhmhkdab
def bin : Nat → Nat → Nat
  | _, 0 => 1
  | 0, _ + 1 => 0
  | n + 1, k + 1 => bin n (k + 1) + bin n k
theorem bin_zero (n : Nat) : bin n 0 = 1 := by cases n <;> rfl
theorem bin_none (k : Nat) : bin 0 (k + 1) = 0 := rfl
theorem bin_succ (n k : Nat) : bin (n + 1) (k + 1) = bin n (k + 1) + bin n k := rfl
theorem bin_above : ∀ n k, n < k → bin n k = 0 := by
  intro n
  induction n with
  | zero => intro k h; obtain ⟨j, rfl⟩ : ∃ j, k = j + 1 := ⟨k - 1, by omega⟩; rfl
  | succ n ih =>
    intro k h
    obtain ⟨j, rfl⟩ : ∃ j, k = j + 1 := ⟨k - 1, by omega⟩
    rw [bin_succ, ih _ (by omega), ih _ (by omega)]
theorem bin_self : ∀ n, bin n n = 1 := by
  intro n
  induction n with
  | zero => rfl
  | succ n ih => rw [bin_succ, ih, bin_above n (n + 1) (by omega)]
theorem bin_pos : ∀ n k, k ≤ n → 0 < bin n k := by
  intro n
  induction n with
  | zero => intro k h; obtain rfl : k = 0 := (by omega); exact Nat.one_pos
  | succ n ih =>
    intro k h
    cases k with
    | zero => exact Nat.one_pos
    | succ k => rw [bin_succ]; have := ih k (by omega); omega
theorem bin_step : ∀ n k, bin n (k + 1) * (k + 1) = bin n k * (n - k) := by
  intro n
  induction n with
  | zero => intro k; rw [bin_none, Nat.zero_mul, Nat.zero_sub, Nat.mul_zero]
  | succ n ih =>
    intro k
    cases k with
    | zero =>
      rw [bin_succ, bin_zero, bin_zero]
      have := ih 0
      rw [bin_zero] at this
      omega
    | succ k =>
      rw [bin_succ, bin_succ n k, Nat.add_mul]
      have h1 := ih (k + 1)
      have h2 := ih k
      rw [h1]
      have h3 : bin n (k + 1) * (k + 1 + 1) = bin n k * (n - k) + bin n (k + 1) := by rw [Nat.mul_add, Nat.mul_one, h2]
      rw [h3, show n + 1 - (k + 1) = n - k by omega, Nat.add_mul]
      by_cases h : k + 1 ≤ n
      · have : bin n (k + 1) * (n - k) = bin n (k + 1) * (n - (k + 1)) + bin n (k + 1) := by
          rw [show n - k = n - (k + 1) + 1 by omega, Nat.mul_add, Nat.mul_one]
        omega
      · rw [bin_above n (k + 1) (by omega), Nat.zero_mul, Nat.zero_mul]
        omega
theorem bin_symm : ∀ n k, k ≤ n → bin n k = bin n (n - k) := by
  intro n
  induction n with
  | zero => intro k h; obtain rfl : k = 0 := (by omega); rfl
  | succ n ih =>
    intro k h
    cases k with
    | zero => rw [bin_zero, Nat.sub_zero, bin_self]
    | succ k =>
      by_cases e : k = n
      · subst e
        rw [bin_self, Nat.sub_self, bin_zero]
      · rw [show n + 1 - (k + 1) = n - (k + 1) + 1 by omega, bin_succ, bin_succ, ih (k + 1) (by omega), ih k (by omega), show n - k = n - (k + 1) + 1 by omega]
        omega
/-- Cut off at M. -/
theorem min_sum (M a b : Nat) : min M (min M a + min M b) = min M (a + b) := by omega
end Go.Proofs.Ytflflmdlhmhkdab

namespace Go.Proofs.Ytflflmdlhmhkdab
/-- Bit i. -/
def bt (s i : Nat) : Nat := s / 2 ^ i % 2
/-- How many of the lowest l bits are set. -/
def cn : Nat → Nat → Nat
  | _, 0 => 0
  | s, l + 1 => s % 2 + cn (s / 2) l
theorem bt_lt (s i : Nat) : bt s i < 2 := Nat.mod_lt _ (by decide)
theorem div_up (s i : Nat) : s / 2 ^ i / 2 = s / 2 ^ (i + 1) := by rw [Nat.div_div_eq_div_mul, Nat.pow_succ]
theorem bt_half (s i : Nat) : bt (s / 2) i = bt s (i + 1) := by
  unfold bt
  rw [Nat.div_div_eq_div_mul, Nat.pow_succ, Nat.mul_comm 2]
theorem cn_le : ∀ l s, cn s l ≤ l := by
  intro l
  induction l with
  | zero => intro s; exact Nat.le_refl _
  | succ l ih => intro s; have := ih (s / 2); show s % 2 + cn (s / 2) l ≤ _; omega
theorem cn_top : ∀ l s, cn s (l + 1) = cn s l + bt s l := by
  intro l
  induction l with
  | zero => intro s; show s % 2 + 0 = 0 + s / 2 ^ 0 % 2; rw [Nat.pow_zero, Nat.div_one]; omega
  | succ l ih =>
    intro s
    show s % 2 + cn (s / 2) (l + 1) = s % 2 + cn (s / 2) l + bt s (l + 1)
    rw [ih, bt_half]
    omega
theorem cn_split : ∀ i l s, cn s (i + l) = cn s i + cn (s / 2 ^ i) l := by
  intro i
  induction i with
  | zero => intro l s; rw [Nat.zero_add, Nat.pow_zero, Nat.div_one]; show _ = 0 + _; omega
  | succ i ih =>
    intro l s
    rw [show i + 1 + l = (i + l) + 1 by omega]
    show s % 2 + cn (s / 2) (i + l) = s % 2 + cn (s / 2) i + _
    rw [ih, Nat.div_div_eq_div_mul, show 2 * 2 ^ i = 2 ^ (i + 1) from (Nat.pow_succ' ..).symm]
    omega
theorem cn_zero : ∀ l, cn 0 l = 0 := by
  intro l
  induction l with
  | zero => rfl
  | succ l ih => show 0 % 2 + cn (0 / 2) l = 0; rw [Nat.zero_div, ih]
theorem cn_mono {s a b : Nat} (h : a ≤ b) : cn s a ≤ cn s b := by
  obtain ⟨d, rfl⟩ : ∃ d, b = a + d := ⟨b - a, by omega⟩
  rw [cn_split]
  omega
theorem mod_up (s i : Nat) : s % 2 ^ (i + 1) = s % 2 ^ i + 2 ^ i * bt s i := by
  unfold bt
  rw [Nat.pow_succ, Nat.mod_mul]
theorem mod_same : ∀ {s a b : Nat}, a ≤ b → cn s a = cn s b → s % 2 ^ a = s % 2 ^ b := by
  intro s a b h
  obtain ⟨d, rfl⟩ : ∃ d, b = a + d := ⟨b - a, by omega⟩
  clear h
  induction d with
  | zero => intro _; rfl
  | succ d ih =>
    intro e
    rw [← Nat.add_assoc, cn_top] at e
    have h1 := cn_mono (s := s) (show a ≤ a + d by omega)
    have h2 : bt s (a + d) = 0 := by omega
    rw [← Nat.add_assoc, mod_up, h2, ih (by omega)]
    rfl
/-- How many sets of l have the least number and m numbers in all, or could. -/
def bw (l : Nat) : Nat → Nat
  | 0 => 0
  | m + 1 => bin l m
theorem bin_bw (l m : Nat) : bin (l + 1) m = bin l m + bw l m := by
  cases m with
  | zero => rw [bin_zero, bin_zero]; rfl
  | succ m => rfl
theorem bw_part (l m : Nat) : bin (l + 1) m * m = bw l m * (l + 1) := by
  cases m with
  | zero => show _ * 0 = 0 * _; omega
  | succ m =>
    show _ = bin l m * (l + 1)
    rw [bin_succ, Nat.add_mul, bin_step]
    by_cases h : m ≤ l
    · rw [← Nat.mul_add]
      congr 1
      omega
    · rw [bin_above l m (by omega)]
      omega
theorem bw_le (l m : Nat) : bw l m ≤ bin (l + 1) m := by rw [bin_bw]; omega
/-- How many sets of the size stand ahead of s. -/
def pla : Nat → Nat → Nat
  | _, 0 => 0
  | s, l + 1 => if s % 2 = 1 then pla (s / 2) l else bw l (cn s (l + 1)) + pla (s / 2) l
theorem pla_odd {s l : Nat} (h : s % 2 = 1) : pla s (l + 1) = pla (s / 2) l := if_pos h
theorem pla_even {s l : Nat} (h : s % 2 = 0) : pla s (l + 1) = bw l (cn s (l + 1)) + pla (s / 2) l := if_neg (by omega)
theorem cn_odd {s l : Nat} (h : s % 2 = 1) : cn s (l + 1) = cn (s / 2) l + 1 := by show s % 2 + _ = _; omega
theorem cn_even {s l : Nat} (h : s % 2 = 0) : cn s (l + 1) = cn (s / 2) l := by show s % 2 + _ = _; omega
theorem pla_lt : ∀ l s, pla s l < bin l (cn s l) := by
  intro l
  induction l with
  | zero => intro s; exact Nat.one_pos
  | succ l ih =>
    intro s
    have h := ih (s / 2)
    rw [bin_bw]
    rcases (by omega : s % 2 = 1 ∨ s % 2 = 0) with e | e
    · rw [pla_odd e, cn_odd e]
      show _ < _ + bin l (cn (s / 2) l)
      omega
    · rw [pla_even e, cn_even e]
      omega
/-- The set of l that has m numbers and this place. -/
def aset : Nat → Nat → Nat → Nat
  | 0, _, _ => 0
  | l + 1, m, p => if p < bw l m then 1 + 2 * aset l (m - 1) p else 2 * aset l m (p - bw l m)
theorem aset_in {l m p : Nat} (h : p < bw l m) : aset (l + 1) m p = 1 + 2 * aset l (m - 1) p := if_pos h
theorem aset_out {l m p : Nat} (h : ¬ p < bw l m) : aset (l + 1) m p = 2 * aset l m (p - bw l m) := if_neg h
theorem aset_pla : ∀ l s, s < 2 ^ l → aset l (cn s l) (pla s l) = s := by
  intro l
  induction l with
  | zero => intro s h; rw [Nat.pow_zero] at h; show 0 = s; omega
  | succ l ih =>
    intro s h
    rw [Nat.pow_succ] at h
    have h1 := ih (s / 2) (by omega)
    rcases (by omega : s % 2 = 1 ∨ s % 2 = 0) with e | e
    · rw [pla_odd e, cn_odd e, aset_in (pla_lt l (s / 2)), Nat.add_sub_cancel, h1]
      omega
    · rw [pla_even e, cn_even e, aset_out (by omega), Nat.add_sub_cancel_left, h1]
      omega
theorem aset_lt : ∀ l m p, aset l m p < 2 ^ l := by
  intro l
  induction l with
  | zero => intro m p; exact Nat.one_pos
  | succ l ih =>
    intro m p
    rw [Nat.pow_succ]
    by_cases h : p < bw l m
    · rw [aset_in h]; have := ih (m - 1) p; omega
    · rw [aset_out h]; have := ih m (p - bw l m); omega
theorem aset_both : ∀ l m p, p < bin l m → cn (aset l m p) l = m ∧ pla (aset l m p) l = p := by
  intro l
  induction l with
  | zero =>
    intro m p h
    cases m with
    | zero => exact ⟨rfl, by rw [bin_zero] at h; show 0 = p; omega⟩
    | succ m => rw [bin_none] at h; omega
  | succ l ih =>
    intro m p h
    by_cases hp : p < bw l m
    · rw [aset_in hp]
      cases m with
      | zero => exact absurd hp (Nat.not_lt_zero _)
      | succ m =>
        obtain ⟨h1, h2⟩ := ih m p hp
        have e : (1 + 2 * aset l m p) % 2 = 1 := by omega
        have e2 : (1 + 2 * aset l m p) / 2 = aset l m p := by omega
        rw [Nat.add_sub_cancel, cn_odd e, pla_odd e, e2, h1, h2]
        exact ⟨rfl, rfl⟩
    · rw [aset_out hp]
      rw [bin_bw] at h
      obtain ⟨h1, h2⟩ := ih m (p - bw l m) (by omega)
      have e : (2 * aset l m (p - bw l m)) % 2 = 0 := by omega
      have e2 : (2 * aset l m (p - bw l m)) / 2 = aset l m (p - bw l m) := by omega
      rw [pla_even e, cn_even e, e2, h1, h2]
      exact ⟨rfl, by omega⟩
theorem aset_none : ∀ l p, aset l 0 p = 0 := by
  intro l
  induction l with
  | zero => intro p; rfl
  | succ l ih => intro p; rw [aset_out (Nat.not_lt_zero _), ih]
theorem ones_odd (m : Nat) : (2 ^ (m + 1) - 1) % 2 = 1 ∧ (2 ^ (m + 1) - 1) / 2 = 2 ^ m - 1 := by
  have := Nat.two_pow_pos m
  rw [Nat.pow_succ]
  omega
theorem cn_ones : ∀ l m, m ≤ l → cn (2 ^ m - 1) l = m := by
  intro l
  induction l with
  | zero => intro m h; obtain rfl : m = 0 := (by omega); rfl
  | succ l ih =>
    intro m h
    cases m with
    | zero => exact cn_zero _
    | succ m =>
      obtain ⟨h1, h2⟩ := ones_odd m
      rw [cn_odd h1, h2, ih m (by omega)]
theorem pla_zero : ∀ l, pla 0 l = 0 := by
  intro l
  induction l with
  | zero => rfl
  | succ l ih => rw [pla_even (Nat.zero_mod _), cn_zero, Nat.zero_div, ih]; rfl
theorem pla_ones : ∀ l m, m ≤ l → pla (2 ^ m - 1) l = 0 := by
  intro l
  induction l with
  | zero => intro m h; rfl
  | succ l ih =>
    intro m h
    cases m with
    | zero => exact pla_zero _
    | succ m =>
      obtain ⟨h1, h2⟩ := ones_odd m
      rw [pla_odd h1, h2, ih m (by omega)]
theorem aset_first {l m : Nat} (h : m ≤ l) : aset l m 0 = 2 ^ m - 1 := by
  have h1 := aset_pla l (2 ^ m - 1) (by
    have := Nat.pow_le_pow_right (n := 2) (by decide) h
    have := Nat.two_pow_pos m
    omega)
  rw [cn_ones l m h, pla_ones l m h] at h1
  exact h1
/-- The next set of l of its size. -/
def nx : Nat → Nat → Option Nat
  | _, 0 => none
  | s, l + 1 => match nx (s / 2) l with
    | some u => some (s % 2 + 2 * u)
    | none => if s % 2 = 1 ∧ cn (s / 2) l < l then some (2 * (2 ^ (cn (s / 2) l + 1) - 1)) else none
theorem nx_some {s l u : Nat} (h : nx (s / 2) l = some u) : nx s (l + 1) = some (s % 2 + 2 * u) := by
  show (match nx (s / 2) l with | some u => _ | none => _) = _
  rw [h]
theorem nx_even {s l : Nat} (h : nx (s / 2) l = none) (e : s % 2 = 0) : nx s (l + 1) = none := by
  show (match nx (s / 2) l with | some u => _ | none => _) = _
  rw [h]
  exact if_neg (by omega)
theorem nx_full {s l : Nat} (h : nx (s / 2) l = none) (e : ¬ cn (s / 2) l < l) : nx s (l + 1) = none := by
  show (match nx (s / 2) l with | some u => _ | none => _) = _
  rw [h]
  exact if_neg (fun a => e a.2)
theorem nx_rise {s l : Nat} (h : nx (s / 2) l = none) (e : s % 2 = 1) (e2 : cn (s / 2) l < l) : nx s (l + 1) = some (2 * (2 ^ (cn (s / 2) l + 1) - 1)) := by
  show (match nx (s / 2) l with | some u => _ | none => _) = _
  rw [h]
  exact if_pos ⟨e, e2⟩
theorem nx_pla : ∀ l s, s < 2 ^ l → (nx s l = none → pla s l + 1 = bin l (cn s l)) ∧ ∀ u, nx s l = some u → u < 2 ^ l ∧ cn u l = cn s l ∧ pla u l = pla s l + 1 := by
  intro l
  induction l with
  | zero => intro s h; exact ⟨fun _ => rfl, fun u h => by cases h⟩
  | succ l ih =>
    intro s h
    rw [Nat.pow_succ] at h
    have hc := cn_le l (s / 2)
    obtain ⟨i1, i2⟩ := ih (s / 2) (by omega)
    cases hn : nx (s / 2) l with
    | some v =>
      obtain ⟨a, b, c⟩ := i2 v hn
      rw [nx_some hn]
      refine ⟨fun h => (by cases h), fun u hu => ?_⟩
      cases hu
      rcases (by omega : s % 2 = 1 ∨ s % 2 = 0) with e | e
      · have e1 : (s % 2 + 2 * v) % 2 = 1 := by omega
        have e2 : (s % 2 + 2 * v) / 2 = v := by omega
        rw [cn_odd e1, pla_odd e1, cn_odd e, pla_odd e, e2, b, c, Nat.pow_succ]
        exact ⟨by omega, rfl, rfl⟩
      · have e1 : (s % 2 + 2 * v) % 2 = 0 := by omega
        have e2 : (s % 2 + 2 * v) / 2 = v := by omega
        rw [pla_even e1, cn_even e1, pla_even e, cn_even e, e2, b, c, Nat.pow_succ]
        exact ⟨by omega, rfl, by omega⟩
    | none =>
      have h1 := i1 hn
      rcases (by omega : s % 2 = 1 ∨ s % 2 = 0) with e | e
      · by_cases hl : cn (s / 2) l < l
        · rw [nx_rise hn e hl]
          refine ⟨fun h => (by cases h), fun u hu => ?_⟩
          cases hu
          obtain ⟨c, hcc⟩ : ∃ c, c = cn (s / 2) l := ⟨_, rfl⟩
          rw [← hcc] at h1 hl ⊢
          have e1 : (2 * (2 ^ (c + 1) - 1)) % 2 = 0 := by omega
          have e2 : (2 * (2 ^ (c + 1) - 1)) / 2 = 2 ^ (c + 1) - 1 := by omega
          have e3 := Nat.pow_le_pow_right (n := 2) (by decide) (show c + 1 ≤ l by omega)
          have e4 := Nat.two_pow_pos (c + 1)
          rw [pla_even e1, cn_even e1, e2, cn_ones l _ (by omega), pla_ones l _ (by omega), pla_odd e, cn_odd e, ← hcc, Nat.pow_succ]
          refine ⟨by omega, rfl, ?_⟩
          show bin l c + 0 = _
          omega
        · rw [nx_full hn hl]
          refine ⟨fun _ => ?_, fun u h => by cases h⟩
          have e1 : cn (s / 2) l = l := by omega
          rw [e1, bin_self] at h1
          rw [pla_odd e, cn_odd e, e1, bin_self]
          exact h1
      · rw [nx_even hn e]
        refine ⟨fun _ => ?_, fun u h => by cases h⟩
        rw [pla_even e, cn_even e, bin_bw]
        omega
theorem nx_aset_some {l m p : Nat} (h : p + 1 < bin l m) : nx (aset l m p) l = some (aset l m (p + 1)) := by
  obtain ⟨a, b⟩ := aset_both l m p (by omega)
  obtain ⟨i1, i2⟩ := nx_pla l (aset l m p) (aset_lt l m p)
  cases hn : nx (aset l m p) l with
  | none => have := i1 hn; rw [a, b] at this; omega
  | some u =>
    obtain ⟨c, d, e⟩ := i2 u hn
    have := aset_pla l u c
    rw [d, e, a, b] at this
    exact congrArg some this.symm
theorem nx_aset_none {l m p : Nat} (h : p + 1 = bin l m) : nx (aset l m p) l = none := by
  obtain ⟨a, b⟩ := aset_both l m p (by omega)
  obtain ⟨i1, i2⟩ := nx_pla l (aset l m p) (aset_lt l m p)
  cases hn : nx (aset l m p) l with
  | none => rfl
  | some u =>
    obtain ⟨c, d, e⟩ := i2 u hn
    have := pla_lt l u
    rw [d, e, a, b] at this
    omega
theorem nx_up : ∀ i s l u, nx (s / 2 ^ i) l = some u → nx s (i + l) = some (s % 2 ^ i + 2 ^ i * u) := by
  intro i
  induction i with
  | zero => intro s l u h; rw [Nat.pow_zero, Nat.div_one] at h; rw [Nat.zero_add, h, Nat.pow_zero, Nat.mod_one]; congr 1; omega
  | succ i ih =>
    intro s l u h
    have h1 := ih (s / 2) l u (by rw [Nat.div_div_eq_div_mul, ← Nat.pow_succ']; exact h)
    rw [show i + 1 + l = (i + l) + 1 by omega, nx_some h1, Nat.pow_succ', Nat.mod_mul]
    congr 1
    rw [Nat.mul_add, Nat.mul_assoc]
    omega
theorem nx_skip {s i l : Nat} (h : nx (s / 2 ^ (i + 1)) l = none) (e : bt s i = 0) : nx (s / 2 ^ i) (l + 1) = none := nx_even (by rw [div_up]; exact h) e
theorem nx_stay {s i l : Nat} (h : nx (s / 2 ^ (i + 1)) l = none) (e : ¬ cn (s / 2 ^ (i + 1)) l < l) : nx (s / 2 ^ i) (l + 1) = none := nx_full (by rw [div_up]; exact h) (by rw [div_up]; exact e)
theorem nx_go {s i l c : Nat} (h : nx (s / 2 ^ (i + 1)) l = none) (e : bt s i = 1) (hc : cn (s / 2 ^ (i + 1)) l = c) (e2 : c < l) :
    nx s (i + (l + 1)) = some (s % 2 ^ i + (2 ^ (c + 1) - 1) * 2 ^ (i + 1)) := by
  have h1 := nx_rise (s := s / 2 ^ i) (l := l) (by rw [div_up]; exact h) e (by rw [div_up, hc]; exact e2)
  rw [div_up, hc] at h1
  rw [nx_up i s (l + 1) _ h1]
  congr 2
  rw [← Nat.mul_assoc, ← Nat.pow_succ, Nat.mul_comm]
theorem nx_zero : ∀ l, nx 0 l = none := by
  intro l
  induction l with
  | zero => rfl
  | succ l ih => exact nx_even (by rw [Nat.zero_div]; exact ih) (Nat.zero_mod _)
/-- Number t of those that s has, as far as they are below i. -/
def lf (s : Nat) : Nat → Nat → Nat
  | 0, _ => 0
  | i + 1, t => if bt s i = 1 ∧ t = cn s i then i else lf s i t
theorem lf_out {s i : Nat} (h : bt s i = 0) (t : Nat) : lf s (i + 1) t = lf s i t := if_neg (by omega)
theorem lf_in {s i : Nat} (h : bt s i = 1) (t : Nat) : lf s (i + 1) t = if t = cn s i then i else lf s i t := by
  show (if bt s i = 1 ∧ t = cn s i then i else lf s i t) = _
  by_cases e : t = cn s i
  · rw [if_pos ⟨h, e⟩, if_pos e]
  · rw [if_neg (fun a => e a.2), if_neg e]
theorem lf_spec {s : Nat} : ∀ {i t : Nat}, t < cn s i → lf s i t < i ∧ bt s (lf s i t) = 1 ∧ cn s (lf s i t) = t := by
  intro i
  induction i with
  | zero => intro t h; exact absurd h (Nat.not_lt_zero _)
  | succ i ih =>
    intro t h
    rw [cn_top] at h
    have := bt_lt s i
    rcases (by omega : bt s i = 1 ∨ bt s i = 0) with e | e
    · rw [lf_in e]
      by_cases ht : t = cn s i
      · rw [if_pos ht]; exact ⟨by omega, e, ht.symm⟩
      · rw [if_neg ht]
        obtain ⟨a, b, c⟩ := ih (t := t) (by omega)
        exact ⟨by omega, b, c⟩
    · rw [lf_out e]
      obtain ⟨a, b, c⟩ := ih (t := t) (by omega)
      exact ⟨by omega, b, c⟩
theorem lf_high {s i : Nat} : ∀ d, s < 2 ^ i → cn s (i + d) = cn s i ∧ ∀ t, lf s (i + d) t = lf s i t := by
  intro d
  induction d with
  | zero => intro _; exact ⟨rfl, fun _ => rfl⟩
  | succ d ih =>
    intro h
    obtain ⟨a, b⟩ := ih h
    have e : bt s (i + d) = 0 := by
      unfold bt
      rw [Nat.div_eq_of_lt (Nat.lt_of_lt_of_le h (Nat.pow_le_pow_right (by decide) (by omega)))]
    rw [← Nat.add_assoc]
    exact ⟨by rw [cn_top, e, a]; rfl, fun t => by rw [lf_out e, b]⟩
/-- The set of the numbers q 0 .. q (j-1). -/
def ofs (q : Nat → Nat) : Nat → Nat
  | 0 => 0
  | j + 1 => ofs q j ||| 2 ^ q j
theorem or_top {a n : Nat} (h : a < 2 ^ n) : a ||| 2 ^ n = a + 2 ^ n := by
  have h1 := Nat.two_pow_add_eq_or_of_lt h 1
  rw [Nat.mul_one] at h1
  rw [Nat.or_comm, ← h1]
  omega
theorem or_high {a n : Nat} (b : Nat) (h : a < 2 ^ n) : a ||| b * 2 ^ n = a + b * 2 ^ n := by
  have h1 := Nat.two_pow_add_eq_or_of_lt h b
  rw [Nat.mul_comm (2 ^ n)] at h1
  rw [Nat.or_comm, ← h1]
  omega
theorem ofs_congr {q r : Nat → Nat} : ∀ {j : Nat}, (∀ t, t < j → q t = r t) → ofs q j = ofs r j := by
  intro j
  induction j with
  | zero => intro _; rfl
  | succ j ih => intro h; show ofs q j ||| 2 ^ q j = _; rw [ih (fun t ht => h t (by omega)), h j (by omega)]; rfl
theorem ofs_lt {q : Nat → Nat} {n : Nat} : ∀ {j : Nat}, (∀ t, t < j → q t < n) → ofs q j < 2 ^ n := by
  intro j
  induction j with
  | zero => intro _; exact Nat.two_pow_pos n
  | succ j ih => intro h; exact Nat.or_lt_two_pow (ih (fun t ht => h t (by omega))) (Nat.pow_lt_pow_right (by decide) (h j (by omega)))
/-- The numbers that s has, up to the one at place j, are its bits below that. -/
theorem ofs_lf {s i : Nat} : ∀ {j : Nat}, j < cn s i → ofs (lf s i) j = s % 2 ^ lf s i j := by
  intro j
  induction j with
  | zero =>
    intro h
    obtain ⟨a, b, c⟩ := lf_spec h
    rw [← mod_same (Nat.zero_le _) (show cn s 0 = _ from c.symm), Nat.pow_zero, Nat.mod_one]
    rfl
  | succ j ih =>
    intro h
    obtain ⟨a, b, c⟩ := lf_spec h
    obtain ⟨a', b', c'⟩ := lf_spec (show j < cn s i by omega)
    have h1 := cn_top (lf s i j) s
    rw [b', c'] at h1
    have hle : lf s i j + 1 ≤ lf s i (j + 1) := by
      apply Classical.byContradiction
      intro hn
      have := cn_mono (s := s) (show lf s i (j + 1) ≤ lf s i j by omega)
      omega
    show ofs (lf s i) j ||| 2 ^ lf s i j = _
    rw [ih (by omega), or_top (Nat.mod_lt _ (Nat.two_pow_pos _)), ← mod_same hle (by omega), mod_up, b', Nat.mul_one]
/-- The list of the next set: number i rises by one, those behind it follow. -/
theorem ofs_nxt {s n i x : Nat} (hi : i < cn s n) (hx : lf s n i = x) : ∀ d, ofs (nxt (lf s n) i) (i + d) = s % 2 ^ x + (2 ^ d - 1) * 2 ^ (x + 1) := by
  have hlo : ∀ t, t < i → nxt (lf s n) i t = lf s n t := fun t ht => if_pos ht
  intro d
  induction d with
  | zero => rw [Nat.add_zero, ofs_congr hlo, ofs_lf hi, hx, Nat.pow_zero]; omega
  | succ d ih =>
    show ofs (nxt (lf s n) i) (i + d) ||| 2 ^ nxt (lf s n) i (i + d) = _
    have e : nxt (lf s n) i (i + d) = x + 1 + d := by
      unfold nxt
      rw [if_neg (by omega), hx]
      omega
    have h1 := Nat.mod_lt s (Nat.two_pow_pos x)
    have h2 := Nat.two_pow_pos d
    have h3 : 2 ^ (x + 1 + d) = 2 ^ d * 2 ^ (x + 1) := by rw [Nat.pow_add, Nat.mul_comm]
    have h4 : (2 ^ d - 1) * 2 ^ (x + 1) + 2 ^ (x + 1) = 2 ^ d * 2 ^ (x + 1) := by
      rw [← Nat.succ_mul]
      congr 1
      omega
    have h5 : 2 ^ (x + 1) = 2 ^ x * 2 := Nat.pow_succ ..
    rw [ih, e, or_top (by rw [h3]; omega), h3]
    have h6 : (2 ^ (d + 1) - 1) * 2 ^ (x + 1) = 2 ^ d * 2 ^ (x + 1) + (2 ^ d - 1) * 2 ^ (x + 1) := by
      rw [← Nat.add_mul]
      congr 1
      rw [Nat.pow_succ]
      omega
    omega
/-- whole times part, divided by parts, the division ahead of the product. -/
theorem portion_eq {a b c r : Nat} (hc : 0 < c) (h : a * b = r * c) : a / c * b + a % c * b / c = r := by
  have h1 : a * b = a / c * b * c + a % c * b := by
    have e := Nat.div_add_mod a c
    calc a * b = (c * (a / c) + a % c) * b := by rw [e]
      _ = _ := by rw [Nat.add_mul, Nat.mul_comm c, Nat.mul_right_comm]
  have h2 : a * b / c = a / c * b + a % c * b / c := by
    rw [h1, Nat.mul_comm (a / c * b) c, Nat.mul_add_div hc]
  rw [← h2, h, Nat.mul_div_cancel _ hc]
/-- How many sets of n have fewer than j numbers. -/
def upt6 (n : Nat) : Nat → Nat
  | 0 => 0
  | j + 1 => upt6 n j + bin n j
theorem upt6_mono {n a b : Nat} (h : a ≤ b) : upt6 n a ≤ upt6 n b := by
  obtain ⟨d, rfl⟩ : ∃ d, b = a + d := ⟨b - a, by omega⟩
  clear h
  induction d with
  | zero => exact Nat.le_refl _
  | succ d ih => show _ ≤ upt6 n (a + d) + bin n (a + d); omega
theorem upt6_high {n : Nat} : ∀ d, upt6 n (n + 1 + d) = upt6 n (n + 1) := by
  intro d
  induction d with
  | zero => rfl
  | succ d ih => show upt6 n (n + 1 + d) + bin n (n + 1 + d) = _; rw [ih, bin_above n _ (by omega)]; rfl
theorem upt6_step (n : Nat) : ∀ j, upt6 (n + 1) (j + 1) = upt6 n (j + 1) + upt6 n j := by
  intro j
  induction j with
  | zero => show 0 + bin (n + 1) 0 = 0 + bin n 0 + 0; rw [bin_zero, bin_zero]
  | succ j ih =>
    show upt6 (n + 1) (j + 1) + bin (n + 1) (j + 1) = upt6 n (j + 1) + bin n (j + 1) + (upt6 n j + bin n j)
    rw [ih, bin_succ]
    omega
theorem upt6_le : ∀ n j, upt6 n j ≤ 2 ^ n := by
  intro n
  induction n with
  | zero =>
    intro j
    cases j with
    | zero => exact Nat.zero_le _
    | succ j => rw [show j + 1 = 0 + 1 + j by omega, upt6_high]; exact Nat.le_refl _
  | succ n ih =>
    intro j
    cases j with
    | zero => exact Nat.zero_le _
    | succ j => rw [upt6_step, Nat.pow_succ]; have := ih (j + 1); have := ih j; omega
/-- A row of Pascal's triangle. -/
def prw : Nat → List Nat
  | 0 => [1]
  | n + 1 => (fun r => List.zipWith (· + ·) (r ++ [0]) (0 :: r)) (prw n)
theorem prw_len : ∀ n, (prw n).length = n + 1 := by
  intro n
  induction n with
  | zero => rfl
  | succ n ih => simp [prw, ih]
theorem prw_get : ∀ n k, k ≤ n → (prw n)[k]? = some (bin n k) := by
  intro n
  induction n with
  | zero => intro k h; obtain rfl : k = 0 := (by omega); rfl
  | succ n ih =>
    intro k h
    have hl := prw_len n
    show (List.zipWith (· + ·) (prw n ++ [0]) (0 :: prw n))[k]? = _
    rw [List.getElem?_zipWith]
    cases k with
    | zero => rw [List.getElem?_append_left (by omega), ih 0 (by omega)]; simp [bin_zero]
    | succ k =>
      rw [List.getElem?_cons_succ, ih k (by omega), bin_succ]
      by_cases e : k + 1 ≤ n
      · rw [List.getElem?_append_left (by omega), ih _ e]
      · rw [List.getElem?_append_right (by omega), bin_above n (k + 1) (by omega), show k + 1 - (prw n).length = 0 by omega]
        simp
theorem bin_mono (n k : Nat) : bin n k ≤ bin (n + 1) k := by rw [bin_bw]; omega
theorem bin_mono' (k : Nat) {a b : Nat} (h : a ≤ b) : bin a k ≤ bin b k := by
  obtain ⟨d, rfl⟩ : ∃ d, b = a + d := ⟨b - a, by omega⟩
  clear h
  induction d with
  | zero => exact Nat.le_refl _
  | succ d ih => exact Nat.le_trans ih (bin_mono _ _)
theorem prw_small : (prw 64).all (fun x => Nat.ble x 1832624140942590534) = true := by kernel_rfl
theorem bin_small {n k : Nat} (hn : n ≤ 64) : bin n k ≤ 1832624140942590534 := by
  refine Nat.le_trans (bin_mono' k hn) ?_
  by_cases h : k ≤ 64
  · have h1 := prw_get 64 k h
    have h2 := List.all_eq_true.mp prw_small _ (List.mem_of_getElem? h1)
    exact Nat.le_of_ble_eq_true h2
  · rw [bin_above 64 k (by omega)]
    omega
end Go.Proofs.Ytflflmdlhmhkdab

namespace Go.Proofs.Ytflflmdlhmhkdab
open Go.RowKit
theorem ji64 : (Try.prog.info? 3).map (fun i => (i.zero, i.size, i.bytes)) = some (some (.int .i64 0), 1, 8) := by kernel_rfl
theorem ju64 : (Try.prog.info? 26).map (fun i => (i.zero, i.size, i.bytes)) = some (some (.int .u64 0), 1, 8) := by kernel_rfl
theorem jcell_lt {w : World} {b o : Nat} {v : Value} (h : w.cell? ⟨b, o, none⟩ = some v) : b < w.heap.size := by
  by_cases hb : b < w.heap.size
  · exact hb
  · simp [World.cell?, hb] at h
theorem jtwo {w w1 w2 : World} (h1 : Below w.heap.size w w1) (h2 : Below w1.heap.size w1 w2) : Below w.heap.size w w2 := h1.trans (h2.mono h1.size)
theorem jlow (w : World) (o : Obj) : Below w.heap.size w (w.alloc o) := (Below.refl _ _).alloc (Nat.le_refl _) _
theorem jgrown {w w' : World} : w.grownBy w' none ↔ Below w.heap.size w w' :=
  ⟨fun h => ⟨h.os, h.tape, h.output, h.size, fun k hk => h.block k hk (by simp)⟩, fun h => ⟨h.os, h.tape, h.output, h.size, fun k hk _ => h.block k hk⟩⟩
theorem jbelow {w w' : World} {B : Nat} {row : Option Nat} (h : w.grownBy w' row) (hB : B ≤ w.heap.size) (hr : ∀ g, row = some g → B ≤ g) : Below B w w' :=
  ⟨h.os, h.tape, h.output, h.size, fun k hk => h.block k (by omega) (fun e => by have := hr k e.symm; omega)⟩
/-- The cells of a list of n numbers of a kind. -/
def jrow (K : IntKind) (n : Nat) (f : Nat → Nat) : Array Value := (Array.range n).map fun i => .int K (f i : Nat)
theorem jrow_size (K : IntKind) (n : Nat) (f : Nat → Nat) : (jrow K n f).size = n := by simp [jrow]
theorem jrow_get (K : IntKind) (n : Nat) (f : Nat → Nat) (i : Nat) (h : i < n) : (jrow K n f)[i]? = some (.int K (f i : Nat)) := by simp [jrow, h]
theorem jrow_set (K : IntKind) (n : Nat) (f : Nat → Nat) (i v : Nat) : (jrow K n f).setIfInBounds i (.int K (v : Int)) = jrow K n (fun j => if j = i then v else f j) := by
  apply Array.ext
  · simp [jrow]
  · intro j h1 h2
    by_cases e : i = j
    · subst e; simp [jrow]
    · rw [Array.getElem_setIfInBounds_ne (by simpa using h1) e]; simp [jrow, Ne.symm e]
theorem jrow_congr (K : IntKind) (n : Nat) (f f' : Nat → Nat) (h : ∀ i, i < n → f i = f' i) : jrow K n f = jrow K n f' := by
  apply Array.ext
  · simp [jrow]
  · intro j h1 h2
    simp [jrow_size] at h1
    simp [jrow, h j h1]
theorem jrow_push (K : IntKind) (n : Nat) (f : Nat → Nat) (v : Nat) : (jrow K n f).toList ++ [.int K (v : Int)] = (jrow K (n + 1) (fun i => if i = n then v else f i)).toList := by
  apply List.ext_getElem?
  intro i
  have hl : (jrow K n f).toList.length = n := by simp [jrow_size]
  by_cases h1 : i < n
  · rw [List.getElem?_append_left (by omega), Array.getElem?_toList, Array.getElem?_toList, jrow_get K n f i h1, jrow_get K (n + 1) _ i (by omega), if_neg (by omega)]
  · rw [List.getElem?_append_right (by omega), hl]
    by_cases h2 : i = n
    · subst h2
      have e2 : (jrow K (i + 1) (fun t => if t = i then v else f t)).toList[i]? = some (.int K (v : Int)) := by rw [Array.getElem?_toList, jrow_get K (i + 1) _ i (by omega), if_pos rfl]
      rw [Nat.sub_self, e2]; rfl
    · have l2 : (jrow K (n + 1) (fun i => if i = n then v else f i)).toList.length = n + 1 := by simp [jrow_size]
      rw [List.getElem?_eq_none (by simp; omega), List.getElem?_eq_none (by omega)]
/-- A block of n numbers. -/
def JAt (w : World) (b : Nat) (T : TypeId) (K : IntKind) (n : Nat) (f : Nat → Nat) : Prop := w.heap[b]? = some (.cells (jrow K n f) T (0, 0))
theorem JAt.cell {w : World} {b n : Nat} {T : TypeId} {K : IntKind} {f : Nat → Nat} (h : JAt w b T K n f) (i : Nat) (hi : i < n) : w.cell? ⟨b, i, none⟩ = some (.int K (f i : Nat)) := by
  rw [cell_of_row w b i _ _ _ h, jrow_get K n f i hi]
theorem JAt.free {w : World} {b n : Nat} {T : TypeId} {K : IntKind} {f : Nat → Nat} (h : JAt w b T K n f) (i : Nat) : w.frozen? ⟨b, i, none⟩ = false := by
  unfold JAt at h
  simp [World.frozen?, h]
theorem JAt.lt {w : World} {b n : Nat} {T : TypeId} {K : IntKind} {f : Nat → Nat} (h : JAt w b T K n f) : b < w.heap.size := lt_of_block h
theorem JAt.set {w : World} {b n : Nat} {T : TypeId} {K : IntKind} {f : Nat → Nat} (h : JAt w b T K n f) (i v : Nat) : JAt (w.setCell ⟨b, i, none⟩ (.int K (v : Int))) b T K n (fun j => if j = i then v else f j) := by
  unfold JAt at *
  rw [setCell_eq_setRow w b i _ _ (0, 0) _ h, setRow_heap w b _ _ _ (0, 0) h, jrow_set]
theorem JAt.congr {w : World} {b n : Nat} {T : TypeId} {K : IntKind} {f f' : Nat → Nat} (h : JAt w b T K n f) (e : ∀ i, i < n → f i = f' i) : JAt w b T K n f' := by
  unfold JAt at *
  rw [h, jrow_congr K n f f' e]
theorem JAt.later {w w' : World} {b n : Nat} {T : TypeId} {K : IntKind} {f : Nat → Nat} (h : JAt w b T K n f) (hb : Below w.heap.size w w') : JAt w' b T K n f := by unfold JAt; rw [hb.block b h.lt]; exact h
theorem jmade (K : IntKind) (n : Nat) : madeCells (Value.int K 0).cells (n * 1) = jrow K n (fun _ => 0) := by
  rw [Nat.mul_one]
  apply Array.ext
  · simp [madeCells, jrow, Value.cells]
  · intro j h1 h2
    simp [madeCells, jrow, Value.cells, Nat.mod_one]
theorem jmade_at {w1 : World} {base g n : Nat} {T : TypeId} {K : IntKind} (h : w1.ownsRow base T 1 (.slice (some ⟨g, 0, none⟩) n n) n (madeCells (Value.int K 0).cells (n * 1)).toList) : JAt w1 g T K n (fun _ => 0) := by
  rcases h.2 with ⟨e, _⟩ | ⟨g', cap, cur, e, _, hg, _, _, hs, ht⟩
  · cases e
  · cases e
    unfold JAt
    rw [hg]
    have : cur.toList = (jrow K n (fun _ => 0)).toList := by
      rw [← jmade K n, ← ht, List.take_of_length_le (by simp [hs])]
    rw [Array.toList_inj.1 this]
/-- Numbers of the call's own. -/
def Jo (w : World) (B : Nat) (T : TypeId) (K : IntKind) (v : Value) (n : Nat) (f : Nat → Nat) : Prop := w.ownsRow B T 1 v n (jrow K n f).toList
theorem Jo.nil (w : World) (B : Nat) (T : TypeId) (K : IntKind) (f : Nat → Nat) : Jo w B T K (.slice none 0 0) 0 f := by
  unfold Jo
  have : (jrow K 0 f).toList = [] := by simp [jrow]
  rw [this]
  exact World.ownsRow_nil _ _ _ _
theorem Jo.kept {w w' : World} {B n : Nat} {T : TypeId} {K : IntKind} {v : Value} {f : Nat → Nat} {row : Option Nat} (h : Jo w B T K v n f) (hg : w.grownBy w' row) (hne : v.ownBlock = none ∨ v.ownBlock ≠ row) : Jo w' B T K v n f := World.ownsRow.kept h hg hne
theorem Jo.later {w w' : World} {B n : Nat} {T : TypeId} {K : IntKind} {v : Value} {f : Nat → Nat} (h : Jo w B T K v n f) (hb : Below w.heap.size w w') : Jo w' B T K v n f := h.kept (jgrown.mpr hb) (by cases hv : v.ownBlock <;> simp)
theorem Jo.form {w : World} {B n : Nat} {T : TypeId} {K : IntKind} {v : Value} {f : Nat → Nat} (h : Jo w B T K v n f) : ∃ s d, v = .slice s n d ∧ (s = none → n = 0 ∧ d = 0) := by
  rcases h.2 with ⟨e, h0⟩ | ⟨g, cap, cur, e, _⟩
  · exact ⟨none, 0, by rw [e, h0], fun _ => ⟨h0, rfl⟩⟩
  · exact ⟨_, _, e, fun x => by cases x⟩
theorem Jo.base {w : World} {B n : Nat} {T : TypeId} {K : IntKind} {v : Value} {f : Nat → Nat} (h : Jo w B T K v n f) {g : Nat} (hg : v.ownBlock = some g) : B ≤ g ∧ g < w.heap.size := by
  rcases h.2 with ⟨e, _⟩ | ⟨g', cap, cur, e, hB, hb, _⟩
  · rw [e] at hg; simp [Value.ownBlock] at hg
  · rw [e] at hg; simp [Value.ownBlock] at hg; subst hg; exact ⟨hB, lt_of_block hb⟩
theorem Jo.addr {w : World} {B n d : Nat} {T : TypeId} {K : IntKind} {s : Option Addr} {f : Nat → Nat} (h : Jo w B T K (.slice s n d) n f) (hn : 0 < n) : ∃ g, s = some ⟨g, 0, none⟩ ∧ B ≤ g ∧ g < w.heap.size := by
  rcases h.2 with ⟨_, h0⟩ | ⟨g, cap, cur, e, hB, hg, hc, _, hs, ht⟩
  · omega
  · cases e
    exact ⟨g, rfl, hB, lt_of_block hg⟩
theorem Jo.cell {w : World} {B n d g : Nat} {T : TypeId} {K : IntKind} {f : Nat → Nat} (h : Jo w B T K (.slice (some ⟨g, 0, none⟩) n d) n f) (i : Nat) (hi : i < n) : w.cell? ⟨g, i, none⟩ = some (.int K (f i : Nat)) := by
  rcases h.2 with ⟨_, h0⟩ | ⟨g, cap, cur, e, _, hg, hc, _, hs, ht⟩
  · omega
  · cases e
    rw [cell_of_row w g i _ _ _ hg]
    have e1 : (cur.toList.take (n * 1))[i]? = some (.int K (f i : Nat)) := by rw [ht, Array.getElem?_toList, jrow_get K n f i hi]
    rw [List.getElem?_take, if_pos (by omega), Array.getElem?_toList] at e1
    exact e1
theorem Jo.free {w : World} {B n d g : Nat} {T : TypeId} {K : IntKind} {f : Nat → Nat} (h : Jo w B T K (.slice (some ⟨g, 0, none⟩) n d) n f) (i : Nat) : w.frozen? ⟨g, i, none⟩ = false := World.ownsRow.frozenAt h i
theorem Jo.congr {w : World} {B n : Nat} {T : TypeId} {K : IntKind} {v : Value} {f f' : Nat → Nat} (h : Jo w B T K v n f) (e : ∀ i, i < n → f i = f' i) : Jo w B T K v n f' := by
  unfold Jo at *
  rw [← jrow_congr K n f f' e]; exact h
theorem Jo.mono {w : World} {B B' n : Nat} {T : TypeId} {K : IntKind} {v : Value} {f : Nat → Nat} (h : Jo w B T K v n f) (hB : B' ≤ B) : Jo w B' T K v n f := by
  refine ⟨h.1, ?_⟩
  rcases h.2 with h' | ⟨g, cap, cur, e, hb, r⟩
  · exact .inl h'
  · exact .inr ⟨g, cap, cur, e, by omega, r⟩
theorem jone_new (K : IntKind) (w : World) (t : TypeId) (x : Nat) : ∀ j u, [Value.int K (x : Int)][j]? = some u → (w.alloc (.cells #[.int K (x : Int)] t)).cell? ((⟨w.heap.size, 0, none⟩ : Addr).add j) = some u := by
  intro j u hj
  match j, hj with
  | 0, hj => simp at hj; subst hj; simp [Addr.add]
theorem jone_one (K : IntKind) (x : Nat) : ∀ u ∈ [Value.int K (x : Int)], u.oneCell' = true := by intro u hu; simp at hu; subst hu; rfl
/-- A slice reads as q 0, q 1, .. -/
def Jl (w : World) (b : Option Addr) (K : IntKind) (m : Nat) (q : Nat → Int) : Prop := ∀ i, i < m → ∃ x o, b = some ⟨x, o, none⟩ ∧ w.cell? ⟨x, o + i, none⟩ = some (.int K (q i))
theorem Jl.later {w w' : World} {b : Option Addr} {K : IntKind} {m : Nat} {q : Nat → Int} (h : Jl w b K m q) (hb : Below w.heap.size w w') : Jl w' b K m q := fun i hi => by
  obtain ⟨x, o, e, hc⟩ := h i hi
  exact ⟨x, o, e, by rw [hb.cell (p := ⟨x, o + i, none⟩) (jcell_lt hc)]; exact hc⟩
theorem Jo.jl {w : World} {B n d : Nat} {T : TypeId} {K : IntKind} {s : Option Addr} {f : Nat → Nat} (h : Jo w B T K (.slice s n d) n f) : Jl w s K n (fun i => (f i : Int)) := fun i hi => by
  obtain ⟨g, rfl, _⟩ := h.addr (by omega)
  exact ⟨g, 0, rfl, by rw [Nat.zero_add]; exact h.cell i hi⟩
end Go.Proofs.Ytflflmdlhmhkdab

namespace Go.Proofs.Ytflflmdlhmhkdab
open Go.RowKit
theorem j_cast (s i : Nat) : (s : Int) / 2 ^ i = ((s / 2 ^ i : Nat) : Int) := by simp
theorem j_shr (s i : Nat) (hs : s < 18446744073709551616) : (s : Int) / 2 ^ min i 64 = ((s / 2 ^ i : Nat) : Int) := by
  rw [j_cast]
  by_cases h : i ≤ 64
  · rw [Nat.min_eq_left h]
  · rw [Nat.min_eq_right (by omega), Nat.div_eq_of_lt (show s < 2 ^ 64 from hs), Nat.div_eq_of_lt (Nat.lt_of_lt_of_le (show s < 2 ^ 64 from hs) (Nat.pow_le_pow_right (by decide) (by omega)))]
theorem j_div_lt (s i : Nat) (hs : s < 18446744073709551616) : s / 2 ^ i < 18446744073709551616 := Nat.lt_of_le_of_lt (Nat.div_le_self _ _) hs
theorem j_bit (s i : Nat) (hs : s < 18446744073709551616) : bits .and .u64 ((s / 2 ^ i : Nat) : Int) 1 = ((bt s i : Nat) : Int) := by
  have h := u64_and_nat (s / 2 ^ i) 1 (j_div_lt s i hs) (by decide)
  rw [Nat.and_one_is_mod] at h
  exact h
theorem j_bit' (s i : Nat) (hs : s < 18446744073709551616) : bits .and .u64 ((s : Int) / 2 ^ i) 1 = ((bt s i : Nat) : Int) := by rw [j_cast, j_bit s i hs]
theorem j_pow_lt {i : Nat} (h : i < 64) : 2 ^ i < 18446744073709551616 := Nat.pow_lt_pow_right (a := 2) (by decide) h
theorem j_pow (i : Nat) (h : i < 64) : IntKind.u64.wrap (2 ^ i) = ((2 ^ i : Nat) : Int) := by
  have h1 := j_pow_lt h
  have e : ((2 : Int) ^ i) = ((2 ^ i : Nat) : Int) := by simp
  rw [e, IntKind.wrap_u64]
  generalize 2 ^ i = z at h1 ⊢
  omega
theorem j_first (i : Nat) (h : i ≤ 64) : IntKind.u64.wrap (IntKind.u64.wrap (2 ^ i) - 1) = ((2 ^ i - 1 : Nat) : Int) := by
  by_cases h1 : i < 64
  · have h2 := j_pow_lt h1
    have h3 := Nat.two_pow_pos i
    rw [j_pow i h1, IntKind.wrap_u64]
    generalize 2 ^ i = z at h2 h3
    omega
  · obtain rfl : i = 64 := by omega
    decide
theorem j_bool {n : Nat} : ((n : Int) == 1) = decide (n = 1) := by
  by_cases h : n = 1
  · subst h; rfl
  · rw [decide_eq_false h]
    simp only [beq_eq_false_iff_ne, ne_eq]
    omega
set_option maxHeartbeats 400000 in
theorem jhas_ok (s i : Nat) (w : World) (hs : s < 18446744073709551616) :
    Calls Try.prog 26 #[.int .u64 (s : Int), .int .i64 (i : Int)] w fun e w' => e = .returned (.bool (decide (bt s i = 1))) ∧ w = w' := by
  have h1 : (s : Int) / 2 ^ min i 64 = (s : Int) / 2 ^ i := by rw [j_shr s i hs, j_cast]
  have h2 := j_bit' s i hs
  go_enter Try.func26, Try.ntmps26
  go_wp2
  go_ret
  exact ⟨by rw [← j_bool]; rfl, rfl⟩
set_option maxHeartbeats 400000 in
theorem jhas_neg (s : Nat) (i : Int) (w : World) (hi : i < 0) :
    Calls Try.prog 26 #[.int .u64 (s : Int), .int .i64 i] w fun e w' => e = .returned (.bool false) ∧ w = w' := by
  go_enter Try.func26, Try.ntmps26
  go_wp2
  go_ret
  exact ⟨rfl, rfl⟩
set_option maxHeartbeats 400000 in
theorem jrhas_ok (s i : Nat) (w : World) (hs : s < 18446744073709551616) (hi : i < 64) :
    Calls Try.prog 11 #[.int .u64 (s : Int), .int .i64 (i : Int)] w fun e w' => e = .returned (.bool (decide (bt s i = 1))) ∧ w = w' := by
  have h2 := j_bit' s i hs
  go_enter Try.func11, Try.ntmps11
  go_wp2
  go_ret
  exact ⟨by rw [← j_bool]; rfl, rfl⟩
set_option maxHeartbeats 400000 in
theorem jrhas_neg (s : Nat) (i : Int) (w : World) (hi : i < 0 ∨ 64 ≤ i) :
    Calls Try.prog 11 #[.int .u64 (s : Int), .int .i64 i] w fun e w' => e = .returned (.bool false) ∧ w = w' := by
  by_cases h : i < 0
  · go_enter Try.func11, Try.ntmps11
    go_wp2
    go_ret
    exact ⟨rfl, rfl⟩
  · have h1 : 0 ≤ i := by omega
    have h2 : 64 ≤ i := by omega
    clear h hi
    go_enter Try.func11, Try.ntmps11
    go_wp2
    go_ret
    exact ⟨rfl, rfl⟩
set_option maxHeartbeats 400000 in
theorem jfirst_ok (k : Nat) (w : World) (hk : k ≤ 64) :
    Calls Try.prog 58 #[.int .i64 (k : Int)] w fun e w' => e = .returned (.int .u64 ((2 ^ k - 1 : Nat) : Int)) ∧ w = w' := by
  have h1 := j_first k hk
  go_enter Try.func58, Try.ntmps58
  go_wp2
  go_ret
  exact ⟨rfl, rfl⟩
set_option maxHeartbeats 400000 in
theorem jbound_ok (n : Nat) (w : World) (hn : n ≤ 64) :
    Calls Try.prog 57 #[.int .i64 (n : Int)] w fun e w' => e = .returned (.bool true) ∧ w = w' := by
  have h2 : decide ((n : Int) ≤ 64) = true := decide_eq_true (by omega)
  go_enter Try.func57, Try.ntmps57
  go_wp2
  go_ret
  exact ⟨rfl, rfl⟩
set_option maxHeartbeats 400000 in
theorem jbound_bad (n : Int) (w : World) (hn : n < 0 ∨ 64 < n) :
    Calls Try.prog 57 #[.int .i64 n] w fun e w' => e = .returned (.bool false) ∧ w = w' := by
  by_cases h : n < 0
  · have h1 : ¬ 0 ≤ n := by omega
    go_enter Try.func57, Try.ntmps57
    go_wp2
    go_ret
    exact ⟨rfl, rfl⟩
  · have h1 : 0 ≤ n := by omega
    have h2 : decide (n ≤ 64) = false := decide_eq_false (by omega)
    go_enter Try.func57, Try.ntmps57
    go_wp2
    go_ret
    exact ⟨rfl, rfl⟩
set_option maxHeartbeats 400000 in
theorem jfull_ok (k : Nat) (w : World) (hk : k ≤ 64) :
    Calls Try.prog 34 #[.int .i64 (k : Int)] w fun e w' => e = .returned (.tuple #[.int .u64 ((2 ^ k - 1 : Nat) : Int), .int .i64 0]) ∧ w = w' := by
  obtain ⟨z, HZ⟩ : ∃ z : Nat, Hid ((2 ^ k - 1 : Nat) = z) := ⟨_, rfl⟩
  rw [HZ.out]
  go_enter Try.func34, Try.ntmps34
  go_wp2_with (first
    | (go_at_call 57; refine (jbound_ok _ _ hk).mono ?_; rintro e w' ⟨rfl, rfl⟩)
    | (go_at_call 58; refine (jfirst_ok _ _ hk).mono ?_; rintro e w' ⟨rfl, rfl⟩; rw [HZ.out]))
  go_ret2
  exact ⟨rfl, rfl⟩
set_option maxHeartbeats 400000 in
theorem jfull_bad (n : Int) (w : World) (hn : n < 0 ∨ 64 < n) :
    Calls Try.prog 34 #[.int .i64 n] w fun e w' => e = .returned (.tuple #[.int .u64 0, .int .i64 2]) ∧ w = w' := by
  go_enter Try.func34, Try.ntmps34
  go_wp2_with (go_at_call 57; refine (jbound_bad _ _ hn).mono ?_; rintro e w' ⟨rfl, rfl⟩)
  go_ret2
  exact ⟨rfl, rfl⟩
theorem j_portion {a b c r : Nat} (ha : a ≤ 1832624140942590534) (hb : b ≤ 64) (hc : c ≤ 65) (hc0 : 0 < c) (hr : r ≤ 1832624140942590534) (h : a * b = r * c) :
    wrap64 (wrap64 (wrap64 ((a : Int) / (c : Int)) * (b : Int)) + wrap64 ((wrap64 ((a : Int) % (c : Int) * (b : Int))).tdiv (c : Int))) = (r : Int) := by
  have h1 := portion_eq hc0 h
  have h2 : a / c ≤ a := Nat.div_le_self _ _
  have h3 : a % c < c := Nat.mod_lt _ hc0
  have h4 : a % c * b ≤ 65 * 64 := Nat.mul_le_mul (by omega) hb
  have e1 : (a : Int) / (c : Int) = ((a / c : Nat) : Int) := by simp
  have e2 : (a : Int) % (c : Int) = ((a % c : Nat) : Int) := by simp
  rw [e1, e2]
  generalize a / c = q at *
  generalize a % c = m at *
  have w1 : wrap64 (q : Int) = (q : Int) := IntWalk.wrap64_in _ (by omega)
  have e3 : (m : Int) * (b : Int) = ((m * b : Nat) : Int) := rfl
  have e4 : (q : Int) * (b : Int) = ((q * b : Nat) : Int) := rfl
  rw [w1, e3, e4]
  clear e1 e2 e3 e4 w1 h2 h3 h
  generalize m * b = x at *
  generalize q * b = y at *
  have w2 : wrap64 (x : Int) = (x : Int) := IntWalk.wrap64_in _ (by omega)
  have e5 : (x : Int).tdiv (c : Int) = ((x / c : Nat) : Int) := rfl
  rw [w2, e5]
  clear w2 e5
  generalize x / c = z at *
  have w3 : wrap64 (y : Int) = (y : Int) := IntWalk.wrap64_in _ (by omega)
  have w4 : wrap64 (z : Int) = (z : Int) := IntWalk.wrap64_in _ (by omega)
  rw [w3, w4, IntWalk.wrap64_in _ (by omega)]
  omega
end Go.Proofs.Ytflflmdlhmhkdab

namespace Go.Proofs.Ytflflmdlhmhkdab
open Go.RowKit
theorem and_low (b x y : Nat) : x &&& y = ((x % 2 ^ b) &&& (y % 2 ^ b)) + 2 ^ b * (x / 2 ^ b &&& y / 2 ^ b) := by
  rw [← Nat.and_mod_two_pow, ← Nat.and_div_two_pow, Nat.mod_add_div]
def sp1 : Nat → Nat | 0 => 0 | k + 1 => 1 + 4 * sp1 k
def sp2 : Nat → Nat | 0 => 0 | k + 1 => 3 + 16 * sp2 k
def sp3 : Nat → Nat | 0 => 0 | k + 1 => 15 + 256 * sp3 k
theorem and_sp1 (k z : Nat) : z &&& sp1 (k + 1) = z % 2 + 4 * (z / 4 &&& sp1 k) := by
  show z &&& (1 + 4 * sp1 k) = _
  have h := and_low 2 z (1 + 4 * sp1 k)
  rw [show (2 : Nat) ^ 2 = 4 from rfl, show (1 + 4 * sp1 k) % 4 = 1 by omega, show (1 + 4 * sp1 k) / 4 = sp1 k by omega, Nat.and_one_is_mod] at h
  omega
theorem and_sp2 (k z : Nat) : z &&& sp2 (k + 1) = z % 4 + 16 * (z / 16 &&& sp2 k) := by
  show z &&& (3 + 16 * sp2 k) = _
  have h := and_low 4 z (3 + 16 * sp2 k)
  have h2 := Nat.and_two_pow_sub_one_eq_mod (z % 16) 2
  rw [show (2 : Nat) ^ 2 - 1 = 3 from rfl] at h2
  rw [show (2 : Nat) ^ 4 = 16 from rfl, show (3 + 16 * sp2 k) % 16 = 3 by omega, show (3 + 16 * sp2 k) / 16 = sp2 k by omega, h2] at h
  omega
theorem and_sp3 (k z : Nat) : z &&& sp3 (k + 1) = z % 16 + 256 * (z / 256 &&& sp3 k) := by
  show z &&& (15 + 256 * sp3 k) = _
  have h := and_low 8 z (15 + 256 * sp3 k)
  have h2 := Nat.and_two_pow_sub_one_eq_mod (z % 256) 4
  rw [show (2 : Nat) ^ 4 - 1 = 15 from rfl] at h2
  rw [show (2 : Nat) ^ 8 = 256 from rfl, show (15 + 256 * sp3 k) % 256 = 15 by omega, show (15 + 256 * sp3 k) / 256 = sp3 k by omega, h2] at h
  omega
/-- The first step: each pair of bits becomes their sum. -/
def st1 (k x : Nat) : Nat := (x / 2 &&& sp1 k) + (x &&& sp1 k)
def st2 (k x : Nat) : Nat := (st1 (2 * k) x / 4 &&& sp2 k) + (st1 (2 * k) x &&& sp2 k)
def st3 (k x : Nat) : Nat := (st2 (2 * k) x / 16 + st2 (2 * k) x) &&& sp3 k
theorem st1_step (k x : Nat) : st1 (k + 1) x = cn x 2 + 4 * st1 k (x / 4) := by
  unfold st1
  rw [and_sp1, and_sp1, show x / 2 / 4 = x / 4 / 2 by omega]
  show _ = x % 2 + (x / 2 % 2 + 0) + _
  omega
theorem cn_four (x : Nat) : cn x 4 = cn x 2 + cn (x / 4) 2 := cn_split 2 2 x
theorem cn_eight (x : Nat) : cn x 8 = cn x 4 + cn (x / 16) 4 := cn_split 4 4 x
theorem st2_step (k x : Nat) : st2 (k + 1) x = cn x 4 + 16 * st2 k (x / 16) := by
  unfold st2
  rw [show 2 * (k + 1) = 2 * k + 1 + 1 by omega, st1_step, st1_step, and_sp2, and_sp2, cn_four, show x / 4 / 4 = x / 16 by omega]
  have h1 := cn_le 2 x
  have h2 := cn_le 2 (x / 4)
  generalize cn x 2 = a at *
  generalize cn (x / 4) 2 = b at *
  generalize st1 (2 * k) (x / 16) = r at *
  rw [show (a + 4 * (b + 4 * r)) / 4 / 16 = r / 4 by omega, show (a + 4 * (b + 4 * r)) / 16 = r by omega]
  omega
theorem st2_zero (x : Nat) : st2 0 x = 0 := by
  show (_ &&& 0) + (_ &&& 0) = 0
  rw [Nat.and_zero, Nat.and_zero]
theorem st1_zero (x : Nat) : st1 0 x = 0 := by
  show (_ &&& 0) + (_ &&& 0) = 0
  rw [Nat.and_zero, Nat.and_zero]
theorem st3_zero (x : Nat) : st3 0 x = 0 := Nat.and_zero _
theorem st2_low (k x : Nat) : st2 k x % 16 ≤ 4 := by
  cases k with
  | zero => rw [st2_zero]; decide
  | succ k => rw [st2_step]; have := cn_le 4 x; omega
theorem st3_step (k x : Nat) : st3 (k + 1) x = cn x 8 + 256 * st3 k (x / 256) := by
  unfold st3
  rw [show 2 * (k + 1) = 2 * k + 1 + 1 by omega, st2_step, st2_step, and_sp3, cn_eight, show x / 16 / 16 = x / 256 by omega]
  have h1 := cn_le 4 x
  have h2 := cn_le 4 (x / 16)
  have h3 := st2_low (2 * k) (x / 256)
  generalize cn x 4 = a at *
  generalize cn (x / 16) 4 = b at *
  generalize st2 (2 * k) (x / 256) = r at *
  rw [show ((a + 16 * (b + 16 * r)) / 16 + (a + 16 * (b + 16 * r))) / 256 = r / 16 + r by omega]
  omega
theorem st1_small : ∀ k x, 3 * st1 k x + 2 ≤ 2 * 4 ^ k := by
  intro k
  induction k with
  | zero => intro x; rw [st1_zero]; decide
  | succ k ih => intro x; rw [st1_step, Nat.pow_succ]; have := ih (x / 4); have := cn_le 2 x; omega
theorem st2_small : ∀ k x, 15 * st2 k x + 4 ≤ 4 * 16 ^ k := by
  intro k
  induction k with
  | zero => intro x; rw [st2_zero]; decide
  | succ k ih => intro x; rw [st2_step, Nat.pow_succ]; have := ih (x / 16); have := cn_le 4 x; omega
theorem bytes_sum (x : Nat) : cn x 64 = cn x 8 + (cn (x / 256) 8 + (cn (x / 256 / 256) 8 + (cn (x / 256 / 256 / 256) 8 + (cn (x / 256 / 256 / 256 / 256) 8 + (cn (x / 256 / 256 / 256 / 256 / 256) 8 + (cn (x / 256 / 256 / 256 / 256 / 256 / 256) 8 + cn (x / 256 / 256 / 256 / 256 / 256 / 256 / 256) 8)))))) := by
  have h : ∀ l y, cn y (8 + l) = cn y 8 + cn (y / 256) l := fun l y => cn_split 8 l y
  rw [show (64 : Nat) = 8 + 56 from rfl, h, show (56 : Nat) = 8 + 48 from rfl, h, show (48 : Nat) = 8 + 40 from rfl, h, show (40 : Nat) = 8 + 32 from rfl, h, show (32 : Nat) = 8 + 24 from rfl, h, show (24 : Nat) = 8 + 16 from rfl, h, show (16 : Nat) = 8 + 8 from rfl, h]
theorem st3_form (x : Nat) : ∃ a b c d e f g h : Nat, a ≤ 8 ∧ b ≤ 8 ∧ c ≤ 8 ∧ d ≤ 8 ∧ e ≤ 8 ∧ f ≤ 8 ∧ g ≤ 8 ∧ h ≤ 8 ∧ cn x 64 = a + (b + (c + (d + (e + (f + (g + h)))))) ∧ st3 8 x = a + 256 * (b + 256 * (c + 256 * (d + 256 * (e + 256 * (f + 256 * (g + 256 * h)))))) := by
  refine ⟨_, _, _, _, _, _, _, _, cn_le 8 _, cn_le 8 _, cn_le 8 _, cn_le 8 _, cn_le 8 _, cn_le 8 _, cn_le 8 _, cn_le 8 _, bytes_sum x, ?_⟩
  rw [st3_step, st3_step, st3_step, st3_step, st3_step, st3_step, st3_step, st3_step, st3_zero, Nat.mul_zero, Nat.add_zero]
/-- The last steps add the eight bytes up. -/
theorem swar_end {X s : Nat} (H : ∃ a b c d e f g h : Nat, a ≤ 8 ∧ b ≤ 8 ∧ c ≤ 8 ∧ d ≤ 8 ∧ e ≤ 8 ∧ f ≤ 8 ∧ g ≤ 8 ∧ h ≤ 8 ∧ s = a + (b + (c + (d + (e + (f + (g + h)))))) ∧ X = a + 256 * (b + 256 * (c + 256 * (d + 256 * (e + 256 * (f + 256 * (g + 256 * h))))))) :
    ∃ Y Z W : Nat, X + X / 256 = Y ∧ Y + Y / 65536 = Z ∧ Z + Z / 4294967296 = W ∧ X < 9223372036854775808 ∧ Y < 9223372036854775808 ∧ Z < 9223372036854775808 ∧ W < 9223372036854775808 ∧ W % 128 = s := by
  obtain ⟨a, b, c, d, e, f, g, h, h1, h2, h3, h4, h5, h6, h7, h8, rfl, rfl⟩ := H
  refine ⟨(a + b) + 256 * ((b + c) + 256 * ((c + d) + 256 * ((d + e) + 256 * ((e + f) + 256 * ((f + g) + 256 * ((g + h) + 256 * h)))))),
    (a + b + c + d) + 256 * ((b + c + d + e) + 256 * ((c + d + e + f) + 256 * ((d + e + f + g) + 256 * ((e + f + g + h) + 256 * ((f + g + h) + 256 * ((g + h) + 256 * h)))))),
    (a + b + c + d + e + f + g + h) + 256 * ((b + c + d + e + f + g + h) + 256 * ((c + d + e + f + g + h) + 256 * ((d + e + f + g + h) + 256 * ((e + f + g + h) + 256 * ((f + g + h) + 256 * ((g + h) + 256 * h)))))), ?_, ?_, ?_, ?_, ?_, ?_, ?_, ?_⟩ <;> omega
theorem j_u64_add {a b c : Nat} (h : a + b = c) (hc : c < 18446744073709551616) : IntKind.u64.wrap ((a : Int) + (b : Int)) = (c : Int) := by
  rw [IntKind.wrap_u64]
  omega
set_option maxHeartbeats 400000 in
theorem jones_ok (x : Nat) (w : World) (hx : x < 18446744073709551616) :
    Calls Try.prog 49 #[.int .u64 (x : Int)] w fun e w' => e = .returned (.int .i64 ((cn x 64 : Nat) : Int)) ∧ w = w' := by
  obtain ⟨R, HR⟩ : ∃ R, R = cn x 64 := ⟨_, rfl⟩
  obtain ⟨Y, Z, W, hY, hZ, hW, b3, b4, b5, b6, hR⟩ := swar_end (st3_form x)
  rw [← HR] at hR ⊢
  have s1 := st1_small 32 x
  have s2 := st2_small 16 x
  have e3 : (st2 16 x / 16 + st2 16 x) &&& 1085102592571150095 = st3 8 x := rfl
  have e2 : (st1 32 x / 4 &&& 3689348814741910323) + (st1 32 x &&& 3689348814741910323) = st2 16 x := rfl
  have e1 : (x / 2 &&& 6148914691236517205) + (x &&& 6148914691236517205) = st1 32 x := rfl
  generalize st3 8 x = X3 at *
  generalize st2 16 x = X2 at *
  generalize st1 32 x = X1 at *
  have a1 : bits .and .u64 ((x : Int) / 2) 6148914691236517205 = ((x / 2 &&& 6148914691236517205 : Nat) : Int) := u64_and_nat (x / 2) 6148914691236517205 (by omega) (by omega)
  have a2 : bits .and .u64 (x : Int) 6148914691236517205 = ((x &&& 6148914691236517205 : Nat) : Int) := u64_and_nat x 6148914691236517205 hx (by omega)
  have a4 : bits .and .u64 ((X1 : Int) / 4) 3689348814741910323 = ((X1 / 4 &&& 3689348814741910323 : Nat) : Int) := u64_and_nat (X1 / 4) 3689348814741910323 (by omega) (by omega)
  have a5 : bits .and .u64 (X1 : Int) 3689348814741910323 = ((X1 &&& 3689348814741910323 : Nat) : Int) := u64_and_nat X1 3689348814741910323 (by omega) (by omega)
  generalize (x / 2 &&& 6148914691236517205) = A1 at *
  generalize (x &&& 6148914691236517205) = A2 at *
  generalize (X1 / 4 &&& 3689348814741910323) = A4 at *
  generalize (X1 &&& 3689348814741910323) = A5 at *
  have a3 := j_u64_add e1 (by omega)
  have a6 := j_u64_add e2 (by omega)
  obtain ⟨Y2, HY2⟩ : ∃ Y2, Y2 = X2 / 16 + X2 := ⟨_, rfl⟩
  rw [← HY2] at e3
  have a7 : IntKind.u64.wrap ((X2 : Int) / 16 + (X2 : Int)) = (Y2 : Int) := j_u64_add (a := X2 / 16) HY2.symm (by omega)
  have a8 : bits .and .u64 (Y2 : Int) 1085102592571150095 = ((Y2 &&& 1085102592571150095 : Nat) : Int) := u64_and_nat Y2 1085102592571150095 (by omega) (by omega)
  rw [e3] at a8
  have a9 : IntKind.u64.wrap ((X3 : Int) + (X3 : Int) / 256) = (Y : Int) := j_u64_add (b := X3 / 256) hY (by omega)
  have a10 : IntKind.u64.wrap ((Y : Int) + (Y : Int) / 65536) = (Z : Int) := j_u64_add (b := Y / 65536) hZ (by omega)
  have a11 : IntKind.u64.wrap ((Z : Int) + (Z : Int) / 4294967296) = (W : Int) := j_u64_add (b := Z / 4294967296) hW (by omega)
  have a12 : bits .and .i64 (W : Int) 127 = (R : Int) := by rw [i64_and127]; omega
  clear HY2
  clear e1 e2 e3 s1 s2 hY hZ hW hR HR
  go_enter Try.func49, Try.ntmps49
  go_wp2
  go_ret
  exact ⟨rfl, rfl⟩
set_option maxHeartbeats 400000 in
theorem jcount_ok (x : Nat) (w : World) (hx : x < 18446744073709551616) :
    Calls Try.prog 30 #[.int .u64 (x : Int)] w fun e w' => e = .returned (.int .i64 ((cn x 64 : Nat) : Int)) ∧ w = w' := by
  obtain ⟨R, HR⟩ : ∃ R, Hid (cn x 64 = R) := ⟨_, rfl⟩
  rw [HR.out]
  go_enter Try.func30, Try.ntmps30
  go_wp2_with (go_at_call 49; refine (jones_ok _ _ hx).mono ?_; rintro e w' ⟨rfl, rfl⟩; rw [HR.out])
  go_ret
  exact ⟨rfl, rfl⟩
end Go.Proofs.Ytflflmdlhmhkdab

namespace Go.Proofs.Ytflflmdlhmhkdab
open Go.RowKit
/-- What Choose tells: a number, or nothing of the kind. -/
def chs (n k : Int) : Nat := if 0 ≤ k then bin n.toNat k.toNat else 0
theorem chs_nat (n k : Nat) : chs n k = bin n k := if_pos (Int.natCast_nonneg k)
/-- What Upto tells. -/
def upv (n : Nat) (t : Int) : Nat := upt6 n (min t n + 1).toNat
def upa (u : Nat) : Array Value := if u ≤ 4611686018427387904 then #[.int .i64 (u : Int), .int .i64 0] else #[.int .i64 0, .int .i64 4]
end Go.Proofs.Ytflflmdlhmhkdab

namespace Go.Proofs.Ytflflmdlhmhkdab
open Go.RowKit
theorem pow_le_64 {n : Nat} (hn : n ≤ 64) : 2 ^ n ≤ 18446744073709551616 := Nat.pow_le_pow_right (n := 2) (by decide) hn
theorem lt_64 {s n : Nat} (hn : n ≤ 64) (h : s < 2 ^ n) : s < 18446744073709551616 := Nat.lt_of_lt_of_le h (pow_le_64 hn)
theorem cn_all {s n : Nat} (hn : n ≤ 64) (h : s < 2 ^ n) : cn s 64 = cn s n := by
  have h1 := (lf_high (s := s) (i := n) (64 - n) h).1
  rwa [show n + (64 - n) = 64 by omega] at h1
/-- Place, halfway: m are missing, x are alike, q are counted; P in all. -/
def PlI (s n j m x q P : Nat) : Prop := cn (s / 2 ^ j) (n - j) = m ∧ bin (n - j) m = x ∧ q + pla (s / 2 ^ j) (n - j) = P
theorem PlI.start {s n k x P : Nat} (hn : n ≤ 64) (hs : s < 2 ^ n) (hk : cn s 64 = k) (hx : bin n k = x) (hP : pla s n = P) : PlI s n 0 k x 0 P := by
  refine ⟨?_, hx, ?_⟩
  · rw [Nat.pow_zero, Nat.div_one, Nat.sub_zero, ← cn_all hn hs, hk]
  · rw [Nat.pow_zero, Nat.div_one, Nat.sub_zero, Nat.zero_add, hP]
theorem PlI.inn {s n j m x q P l : Nat} (I : PlI s n j m x q P) (hl : n - j = l + 1) (h : bt s j = 1) : 0 < m ∧ PlI s n (j + 1) (m - 1) (bw l m) q P := by
  obtain ⟨a, b, c⟩ := I
  have e : n - (j + 1) = l := by omega
  rw [hl] at a b c
  rw [cn_odd (show s / 2 ^ j % 2 = 1 from h), div_up] at a
  rw [pla_odd (show s / 2 ^ j % 2 = 1 from h), div_up] at c
  refine ⟨by omega, ?_, ?_, ?_⟩
  · rw [e]; omega
  · rw [e, ← a]; rfl
  · rw [e]; exact c
theorem PlI.out {s n j m x q P l : Nat} (I : PlI s n j m x q P) (hl : n - j = l + 1) (h : bt s j = 0) : bw l m ≤ x ∧ q + bw l m ≤ P ∧ PlI s n (j + 1) m (x - bw l m) (q + bw l m) P := by
  obtain ⟨a, b, c⟩ := I
  have e : n - (j + 1) = l := by omega
  rw [hl] at a b c
  rw [pla_even (show s / 2 ^ j % 2 = 0 from h), div_up, a] at c
  rw [cn_even (show s / 2 ^ j % 2 = 0 from h), div_up] at a
  have h1 := bin_bw l m
  refine ⟨by omega, by omega, ?_, ?_, ?_⟩
  · rw [e]; exact a
  · rw [e]; omega
  · rw [e]; omega
/-- At, halfway: z is made so far. -/
def AtI (n j m x q z R : Nat) : Prop := m ≤ 64 ∧ bin (n - j) m = x ∧ q < x ∧ z < 2 ^ j ∧ z + 2 ^ j * aset (n - j) m q = R
theorem AtI.inn {n j m x q z R l : Nat} (I : AtI n j m x q z R) (hl : n - j = l + 1) (h : q < bw l m) : 0 < m ∧ AtI n (j + 1) (m - 1) (bw l m) q (z + 2 ^ j) R := by
  obtain ⟨a, b, c, d, e⟩ := I
  have e1 : n - (j + 1) = l := by omega
  cases m with
  | zero => exact absurd h (Nat.not_lt_zero _)
  | succ m =>
    refine ⟨by omega, by omega, by rw [e1]; rfl, h, by rw [Nat.pow_succ]; omega, ?_⟩
    rw [e1, ← e, hl, aset_in h, Nat.pow_succ, Nat.mul_add, Nat.mul_assoc]
    omega
theorem AtI.out {n j m x q z R l : Nat} (I : AtI n j m x q z R) (hl : n - j = l + 1) (h : ¬ q < bw l m) : bw l m ≤ x ∧ AtI n (j + 1) m (x - bw l m) (q - bw l m) z R := by
  obtain ⟨a, b, c, d, e⟩ := I
  have e1 : n - (j + 1) = l := by omega
  rw [hl] at b e
  have h1 := bin_bw l m
  refine ⟨by omega, a, by rw [e1]; omega, by omega, by rw [Nat.pow_succ]; omega, ?_⟩
  rw [e1, ← e, aset_out h, Nat.pow_succ, Nat.mul_assoc]
end Go.Proofs.Ytflflmdlhmhkdab

namespace Go.Proofs.Ytflflmdlhmhkdab
open Go.RowKit
theorem u64_of_wf6 {n : Int} (h : (Lit.int .u64 n).wf = true) : ∃ x : Nat, n = (x : Int) ∧ x < 18446744073709551616 := by
  simp [Lit.wf, IntKind.min, IntKind.max, IntKind.signed, IntKind.bits] at h
  exact ⟨n.toNat, by omega, by omega⟩
theorem i64_of_wf6 {n : Int} (h : (Lit.int .i64 n).wf = true) : -9223372036854775808 ≤ n ∧ n ≤ 9223372036854775807 := by
  simp [Lit.wf, IntKind.min, IntKind.max, IntKind.signed, IntKind.bits] at h
  omega
end Go.Proofs.Ytflflmdlhmhkdab

namespace Go.Proofs.Ytflflmdlhmhkdab
open Go.RowKit
/-- What Next answers. -/
def nxa : Option Nat → Array Value
  | none => #[.int .u64 0, .bool false]
  | some u => #[.int .u64 (u : Int), .bool true]
/-- Next, halfway: down to the number i nothing rises; c numbers are met. -/
def NxI (s n i c : Nat) : Prop := cn (s / 2 ^ i) (n - i) = c ∧ nx (s / 2 ^ i) (n - i) = none
theorem NxI.start (s n : Nat) : NxI s n n 0 := by
  unfold NxI
  rw [Nat.sub_self]
  exact ⟨rfl, rfl⟩
theorem NxI.skip {s n i c : Nat} (I : NxI s n (i + 1) c) (hi : i < n) (h : bt s i = 0) : NxI s n i c := by
  obtain ⟨a, b⟩ := I
  obtain ⟨l, hl⟩ : ∃ l, l = n - (i + 1) := ⟨_, rfl⟩
  rw [← hl] at a b
  have e : n - i = l + 1 := by omega
  unfold NxI
  rw [e]
  exact ⟨by rw [cn_even (show s / 2 ^ i % 2 = 0 from h), div_up]; exact a, nx_skip b h⟩
theorem NxI.stay {s n i c : Nat} (I : NxI s n (i + 1) c) (hi : i < n) (h : bt s i = 1) (hc : ¬ i + (c + 1) < n) : NxI s n i (c + 1) := by
  obtain ⟨a, b⟩ := I
  obtain ⟨l, hl⟩ : ∃ l, l = n - (i + 1) := ⟨_, rfl⟩
  rw [← hl] at a b
  have e : n - i = l + 1 := by omega
  unfold NxI
  rw [e]
  exact ⟨by rw [cn_odd (show s / 2 ^ i % 2 = 1 from h), div_up, a], nx_stay b (by omega)⟩
theorem NxI.rise {s n i c : Nat} (I : NxI s n (i + 1) c) (hi : i < n) (h : bt s i = 1) (hc : i + (c + 1) < n) : nx s n = some (s % 2 ^ i + (2 ^ (c + 1) - 1) * 2 ^ (i + 1)) := by
  obtain ⟨a, b⟩ := I
  obtain ⟨l, hl⟩ : ∃ l, l = n - (i + 1) := ⟨_, rfl⟩
  rw [← hl] at a b
  have := nx_go b h a (by omega)
  rwa [show i + (l + 1) = n by omega] at this
theorem shl_lt {i c n : Nat} (h : i + (c + 1) < n) (hn : n ≤ 64) : (2 ^ (c + 1) - 1) * 2 ^ (i + 1) < 18446744073709551616 := by
  have h1 := Nat.two_pow_pos (c + 1)
  have h2 : (2 ^ (c + 1) - 1) * 2 ^ (i + 1) < 2 ^ (c + 1) * 2 ^ (i + 1) := Nat.mul_lt_mul_of_pos_right (by omega) (Nat.two_pow_pos _)
  rw [← Nat.pow_add] at h2
  exact Nat.lt_of_lt_of_le h2 (pow_le_64 (by omega))
theorem jjump_ret {l : Nat} {J : Act → World → Prop} {Q : Exit → Act → World → Prop} {a : Act} {w : World} : Exit.jump l J Q Exit.ret a w = Q Exit.ret a w := rfl
end Go.Proofs.Ytflflmdlhmhkdab

namespace Go.Proofs.Ytflflmdlhmhkdab
open Go.RowKit
theorem ones_step {i : Nat} : (2 ^ i - 1) ||| 2 ^ i = 2 ^ (i + 1) - 1 := by
  have := Nat.two_pow_pos i
  rw [or_top (by omega), Nat.pow_succ]
  omega
set_option maxHeartbeats 400000 in
theorem rfull_ok (k : Nat) (w : World) (hk : k ≤ 64) :
    Calls Try.prog 40 #[.int .i64 (k : Int)] w fun e w' => e = .returned (.tuple #[.int .u64 ((2 ^ k - 1 : Nat) : Int), .int .i64 0]) ∧ w = w' := by
  have g1 : decide ((k : Int) < 0) = false := decide_eq_false (by omega)
  have g2 : decide ((64 : Int) < (k : Int)) = false := decide_eq_false (by omega)
  obtain ⟨R, HR⟩ : ∃ R : Nat, Hid ((2 ^ k - 1 : Nat) = R) := ⟨_, rfl⟩
  rw [HR.out]
  go_enter Try.func40, Try.ntmps40
  go_wp2
  go_loop [4, 5] (fun vz vi => ∃ i z : Nat, i ≤ k ∧ Hid ((2 ^ i - 1 : Nat) = z) ∧ vi = .int .i64 (i : Int) ∧ vz = .int .u64 (z : Int)) (fun _ vi => k - (intOf vi).toNat)
  case atStart => exact ⟨0, 0, by omega, rfl, rfl, rfl⟩
  case round =>
    obtain ⟨i, z, hi, HZ, rfl, rfl⟩ := hrel
    by_cases hlt : i < k
    · have hi6 : i < 64 := by omega
      obtain ⟨T, hT⟩ : ∃ T, 2 ^ i = T := ⟨_, rfl⟩
      obtain ⟨z', HZ'⟩ : ∃ z' : Nat, Hid ((2 ^ (i + 1) - 1 : Nat) = z') := ⟨_, rfl⟩
      have hp2 : IntKind.u64.wrap (2 ^ i) = (T : Int) := by rw [← hT]; exact j_pow i hi6
      have hT6 := j_pow_lt hi6
      have hor : bits .or .u64 (z : Int) (T : Int) = (z' : Int) := by
        rw [u64_or_nat z T (by rw [← HZ.out]; omega) (by omega), ← hT, ← HZ.out, ones_step, HZ'.out]
      clear hT hT6 HZ
      go_wp2
      exact ⟨⟨i + 1, z', by omega, HZ', by go_num, rfl⟩, by simp [intOf]; omega⟩
    · obtain rfl : i = k := by omega
      have HE : Hid (z = R) := by show _ = _; rw [← HZ.out, ← HR.out]
      clear HZ HR
      go_wp2
      go_ret2
      exact ⟨by rw [← HE.out]; rfl, rfl⟩
set_option maxHeartbeats 400000 in
theorem rfull_bad (n : Int) (w : World) (h : n < 0 ∨ 64 < n) :
    Calls Try.prog 40 #[.int .i64 n] w fun e w' => e = .returned (.tuple #[.int .u64 0, .int .i64 2]) ∧ w = w' := by
  by_cases h0 : n < 0
  · go_enter Try.func40, Try.ntmps40
    go_wp2
    go_ret2
    exact ⟨rfl, rfl⟩
  · have h1 : 64 < n := by omega
    have h2 : 0 ≤ n := by omega
    clear h h0
    go_enter Try.func40, Try.ntmps40
    go_wp2
    go_ret2
    exact ⟨rfl, rfl⟩
/-- A row of Pascal's triangle, from place j on already the next one. -/
def pas (i j t : Nat) : Nat := if j < t then bin (i + 1) t else bin i t
theorem pas_step {i j : Nat} (t : Nat) : (if t = j + 1 then pas i (j + 1) (j + 1) + pas i (j + 1) j else pas i (j + 1) t) = pas i j t := by
  unfold pas
  by_cases e : t = j + 1
  · subst e
    rw [if_pos rfl, if_neg (by omega), if_neg (by omega), if_pos (by omega), bin_succ]
  · rw [if_neg e]
    by_cases h : j + 1 < t
    · rw [if_pos h, if_pos (by omega)]
    · rw [if_neg h, if_neg (by omega)]
theorem pas_zero (i t : Nat) : pas i 0 t = bin (i + 1) t := by
  unfold pas
  by_cases h : 0 < t
  · rw [if_pos h]
  · obtain rfl : t = 0 := by omega
    rw [if_neg h, bin_zero, bin_zero]
theorem pas_top (i k t : Nat) (ht : t ≤ k) : pas i k t = bin i t := if_neg (by omega)
theorem pas_small {i j t : Nat} (hi : i < 64) : pas i j t ≤ 1832624140942590534 := by
  unfold pas
  split
  · exact bin_small (by omega)
  · exact bin_small (by omega)
end Go.Proofs.Ytflflmdlhmhkdab

namespace Go.Proofs.Ytflflmdlhmhkdab
open Go.RowKit
/-- All are numbers that a set may have. -/
def okq (q : Nat → Int) (m : Nat) : Prop := ∀ i, i < m → 0 ≤ q i ∧ q i < 64
/-- The same, by looking at each. -/
def okb (q : Nat → Int) : Nat → Bool
  | 0 => true
  | m + 1 => okb q m && (decide (0 ≤ q m) && decide (q m < 64))
theorem okb_iff (q : Nat → Int) : ∀ m, okb q m = true ↔ okq q m := by
  intro m
  induction m with
  | zero => exact ⟨fun _ i hi => by omega, fun _ => rfl⟩
  | succ m ih =>
    constructor
    · intro h i hi
      have h1 : okb q m = true ∧ (0 ≤ q m ∧ q m < 64) := by simpa [okb] using h
      by_cases e : i = m
      · rw [e]; exact h1.2
      · exact ih.1 h1.1 i (by omega)
    · intro h
      have h1 : okb q m = true := ih.2 (fun i hi => h i (by omega))
      have h2 := h m (by omega)
      simp [okb, h1, h2.1, h2.2]
/-- What Of answers. -/
def ofa (q : Nat → Int) (m : Nat) : Array Value := if okb q m = true then #[.int .u64 ((ofs (fun i => (q i).toNat) m : Nat) : Int), .int .i64 0] else #[.int .u64 0, .int .i64 2]
theorem ofa_yes {q : Nat → Int} {m : Nat} (h : okq q m) : ofa q m = #[.int .u64 ((ofs (fun i => (q i).toNat) m : Nat) : Int), .int .i64 0] := if_pos ((okb_iff q m).2 h)
theorem ofa_no {q : Nat → Int} {m j : Nat} (hj : j < m) (h : ¬ (0 ≤ q j ∧ q j < 64)) : ofa q m = #[.int .u64 0, .int .i64 2] := if_neg (fun o => h ((okb_iff q m).1 o j hj))
theorem okq_step {q : Nat → Int} {j : Nat} (h : okq q j) (hj : 0 ≤ q j ∧ q j < 64) : okq q (j + 1) := fun i hi => by
  by_cases e : i = j
  · rw [e]; exact hj
  · exact h i (by omega)
theorem ofs_64 {q : Nat → Int} {m : Nat} (h : okq q m) : ofs (fun i => (q i).toNat) m < 18446744073709551616 := ofs_lt (n := 64) (fun i hi => by have := h i hi; show (q i).toNat < 64; omega)
end Go.Proofs.Ytflflmdlhmhkdab

namespace Go.Proofs.Ytflflmdlhmhkdab
open Go.RowKit
/-- A number is put behind a list of the call's own. -/
theorem Jo.push {w w2 : World} {B n : Nat} {T : TypeId} {K : IntKind} {v v' : Value} {f : Nat → Nat} {x : Nat} {o : Obj} (h : Jo w B T K v n f) (hB : B ≤ w.heap.size)
    (hown : w2.ownsRow B T 1 v' (n + 1) ((jrow K n f).toList ++ [.int K (x : Int)])) (hg : (w.alloc o).grownBy w2 v.ownBlock) : Jo w2 B T K v' (n + 1) (fun i => if i = n then x else f i) ∧ Below B w w2 := by
  refine ⟨?_, ?_⟩
  · unfold Jo
    rw [← jrow_push]
    exact hown
  · have h1 : Below B w (w.alloc o) := (jlow w o).mono hB
    exact h1.trans (jbelow hg (by have := (jlow w o).size; omega) (fun g hg' => (h.base hg').1))
set_option maxRecDepth 20000 in
set_option maxHeartbeats 1000000 in
theorem rlist_ok (s : Nat) (w : World) (hs : s < 18446744073709551616) :
    Calls Try.prog 13 #[.int .u64 (s : Int)] w fun e w' => ∃ v, e = .returned v ∧ Jo w' w.heap.size 3 .i64 v (cn s 64) (lf s 64) ∧ Below w.heap.size w w' := by
  obtain ⟨i0, hi0, hz0, hz1, hz2⟩ := info_parts ji64
  have HN : Hid (Jo w w.heap.size 3 .i64 (.slice none 0 0) 0 (lf s 0)) := Jo.nil _ _ _ _ _
  go_enter Try.func13, Try.ntmps13
  go_wp2
  go_loopw [3, 4] (fun v vi wr => ∃ i : Nat, i ≤ 64 ∧ vi = .int .i64 (i : Int) ∧ Jo wr w.heap.size 3 .i64 v (cn s i) (lf s i) ∧ Below w.heap.size w wr) (fun _ vi _ => 64 - (intOf vi).toNat)
  case atStart => exact ⟨0, by omega, rfl, HN.out, Below.refl _ _⟩
  case round =>
    obtain ⟨i, hi, rfl, I, hb⟩ := hrel
    obtain ⟨ps, pd, rfl, hpn⟩ := I.form
    have HI : Hid (Jo wr w.heap.size 3 .i64 (.slice ps (cn s i) pd) (cn s i) (lf s i)) := I
    have HB : Hid (Below w.heap.size w wr) := hb
    have hcn := cn_le i s
    obtain ⟨t, HT⟩ : ∃ t, Hid (cn s i = t) := ⟨_, rfl⟩
    rw [HT.out] at HI hcn hpn I ⊢
    clear I hb HN
    by_cases hlt : i < 64
    · by_cases hbit : bt s i = 1
      · have hdb : decide (bt s i = 1) = true := decide_eq_true hbit
        have hml2 : t + 1 ≤ maxLen := by unfold maxLen; omega
        have hwsz := HB.out.size
        have HC : Hid (cn s (i + 1) = t + 1) := by show _ = _; rw [cn_top, hbit, HT.out]
        have HL : Hid (∀ k, k < t + 1 → (if k = t then i else lf s i k) = lf s (i + 1) k) := fun k _ => by rw [lf_in hbit, HT.out]
        clear hbit
        go_wp2_with (first
          | (go_at_call 11; refine (jrhas_ok s i _ hs hlt).mono ?_; rintro e w' ⟨rfl, rfl⟩; rw [hdb])
          | (at_builtin; refine wpList_append_own _ rfl _ _ 37 rfl w.heap.size 3 i0 (.int .i64 0) 1 8 Try.underlying37 hi0 hz0 hz1 hz2 rfl (by decide) _ t _ rfl (World.ownsRow.alloc HI.out _) ⟨wr.heap.size, 0, none⟩ 1 1 [.int .i64 (i : Int)] rfl rfl (jone_new _ _ _ _) (jone_one _ _) hml2 (by omega) (by simp; omega) ?_; intro v' w6 hown' hgrow' _; have HO6 := HI.out.push HB.out.size hown' hgrow'; clear hown' hgrow'))
        exact ⟨⟨i + 1, by omega, by go_num, by rw [HC.out]; exact HO6.1.congr HL.out, HB.out.trans HO6.2⟩, by simp [intOf]; omega⟩
      · have hdb : decide (bt s i = 1) = false := decide_eq_false hbit
        have hb0 : bt s i = 0 := by have := bt_lt s i; omega
        have HC : Hid (cn s (i + 1) = t) := by show _ = _; rw [cn_top, hb0, HT.out]; rfl
        have HL : Hid (∀ k, k < t → lf s i k = lf s (i + 1) k) := fun k _ => (lf_out hb0 k).symm
        clear hbit hb0
        go_wp2_with (go_at_call 11; refine (jrhas_ok s i _ hs hlt).mono ?_; rintro e w' ⟨rfl, rfl⟩; rw [hdb])
        exact ⟨⟨i + 1, by omega, by go_num, by rw [HC.out]; exact HI.out.congr HL.out, HB.out⟩, by simp [intOf]; omega⟩
    · obtain rfl : i = 64 := by omega
      go_wp2
      go_ret
      exact ⟨_, rfl, by rw [HT.out]; exact HI.out, HB.out⟩
set_option maxRecDepth 20000 in
set_option maxHeartbeats 1000000 in
theorem jlist_ok (s : Nat) (w : World) (hs : s < 18446744073709551616) :
    Calls Try.prog 37 #[.int .u64 (s : Int)] w fun e w' => ∃ v, e = .returned v ∧ Jo w' w.heap.size 3 .i64 v (cn s 64) (lf s 64) ∧ Below w.heap.size w w' := by
  obtain ⟨i0, hi0, hz0, hz1, hz2⟩ := info_parts ji64
  obtain ⟨k, HK⟩ : ∃ k, Hid (cn s 64 = k) := ⟨_, rfl⟩
  have hk : k ≤ 64 := by rw [← HK.out]; exact cn_le 64 s
  have HE : Hid ((jrow .i64 0 (lf s 0)).toList = []) := by simp [jrow, Hid]
  go_enter Try.func37, Try.ntmps37
  go_wp2_with (first
    | (go_at_call 30; refine (jcount_ok s _ hs).mono ?_; rintro e w' ⟨rfl, rfl⟩; rw [HK.out])
    | (at_make; refine wpList_make_own _ rfl _ _ 37 rfl w.heap.size 3 i0 (.int .i64 0) 1 Try.underlying37 hi0 hz0 hz1 .i64 .i64 _ k rfl rfl rfl (by rw [hz2]; omega) (by unfold maxLen; omega) (Nat.le_refl _) ?_; intro w1 hown hgrow; have HN : Hid (Jo w1 w.heap.size 3 .i64 (.slice (some ⟨w.heap.size, 0, none⟩) 0 k) 0 (lf s 0)) := (by unfold Jo; rw [HE.out]; exact hown); have HB1 : Hid (Below w.heap.size w w1) := jgrown.mp hgrow; clear hown hgrow))
  go_loopw [0, 3, 4] (fun vs v vi wr => ∃ i z : Nat, i ≤ 64 ∧ Hid (s / 2 ^ i = z) ∧ vs = .int .u64 (z : Int) ∧ vi = .int .i64 (i : Int) ∧ Jo wr w.heap.size 3 .i64 v (cn s i) (lf s i) ∧ Below w.heap.size w wr) (fun vs _ _ _ => (intOf vs).toNat)
  case atStart => exact ⟨0, s, by omega, (by show _ = _; rw [Nat.pow_zero, Nat.div_one]), rfl, rfl, HN.out, HB1.out⟩
  case round =>
    clear HN HB1 HE
    obtain ⟨i, z, hi, HZ, rfl, rfl, I, hb⟩ := hrel
    obtain ⟨ps, pd, rfl, hpn⟩ := I.form
    have HI : Hid (Jo wr w.heap.size 3 .i64 (.slice ps (cn s i) pd) (cn s i) (lf s i)) := I
    have HB : Hid (Below w.heap.size w wr) := hb
    have hcn := cn_le i s
    obtain ⟨t, HT⟩ : ∃ t, Hid (cn s i = t) := ⟨_, rfl⟩
    rw [HT.out] at HI hcn hpn I ⊢
    clear I hb
    have hz6 : z < 18446744073709551616 := by rw [← HZ.out]; exact j_div_lt s i hs
    by_cases hz : z = 0
    · have HLow : Hid (s < 2 ^ i) := by
        show _ < _
        apply Classical.byContradiction
        intro hn
        have := Nat.div_pos (Nat.le_of_not_lt hn) (Nat.two_pow_pos i)
        rw [HZ.out] at this
        omega
      subst hz
      have HC : Hid (k = t) := by show _ = _; rw [← HK.out, ← HT.out]; have := (lf_high (s := s) (i := i) (64 - i) HLow.out).1; rwa [show i + (64 - i) = 64 by omega] at this
      have HL : Hid (∀ u, u < t → lf s i u = lf s 64 u) := fun u _ => by have := (lf_high (s := s) (i := i) (64 - i) HLow.out).2 u; rw [show i + (64 - i) = 64 by omega] at this; exact this.symm
      go_wp2
      go_ret
      exact ⟨_, rfl, by rw [HK.out, HC.out]; exact HI.out.congr HL.out, HB.out⟩
    · have hi64 : i < 64 := by
        apply Classical.byContradiction
        intro hn
        obtain rfl : i = 64 := by omega
        have h := HZ.out
        rw [Nat.div_eq_of_lt (show s < 2 ^ 64 from hs)] at h
        omega
      have hne : ((z : Int) == 0) = false := by simp only [beq_eq_false_iff_ne, ne_eq]; omega
      have hbz : bits .and .u64 (z : Int) 1 = ((bt s i : Nat) : Int) := by rw [← HZ.out]; exact j_bit s i hs
      obtain ⟨z', hz'⟩ : ∃ z', z / 2 = z' := ⟨_, rfl⟩
      have HZ2 : Hid (s / 2 ^ (i + 1) = z') := by show _ = _; rw [← div_up, HZ.out, hz']
      have e1 : (z : Int) / 2 = (z' : Int) := by omega
      by_cases hbit : bt s i = 1
      · have hbz1 : bits .and .u64 (z : Int) 1 = 1 := by rw [hbz, hbit]; rfl
        have hml2 : t + 1 ≤ maxLen := by unfold maxLen; omega
        have hwsz := HB.out.size
        have HC : Hid (cn s (i + 1) = t + 1) := by show _ = _; rw [cn_top, hbit, HT.out]
        have HL : Hid (∀ k, k < t + 1 → (if k = t then i else lf s i k) = lf s (i + 1) k) := fun k _ => by rw [lf_in hbit, HT.out]
        have hzz : z' < z := by omega
        clear hbit HZ hbz hz6 hz' hz hs HK
        go_wp2_with (at_builtin; refine wpList_append_own _ rfl _ _ 37 rfl w.heap.size 3 i0 (.int .i64 0) 1 8 Try.underlying37 hi0 hz0 hz1 hz2 rfl (by decide) _ t _ rfl (World.ownsRow.alloc HI.out _) ⟨wr.heap.size, 0, none⟩ 1 1 [.int .i64 (i : Int)] rfl rfl (jone_new _ _ _ _) (jone_one _ _) hml2 (by omega) (by simp; omega) ?_; intro v' w6 hown' hgrow' _; have HO6 := HI.out.push HB.out.size hown' hgrow'; clear hown' hgrow')
        exact ⟨⟨i + 1, z', by omega, HZ2, by go_num, by go_num, by rw [HC.out]; exact HO6.1.congr HL.out, HB.out.trans HO6.2⟩, by simp [intOf]; omega⟩
      · have hb0 : bt s i = 0 := by have := bt_lt s i; omega
        have hbz1 : bits .and .u64 (z : Int) 1 = 0 := by rw [hbz, hb0]; rfl
        have HC : Hid (cn s (i + 1) = t) := by show _ = _; rw [cn_top, hb0, HT.out]; rfl
        have HL : Hid (∀ k, k < t → lf s i k = lf s (i + 1) k) := fun k _ => (lf_out hb0 k).symm
        have hzz : z' < z := by omega
        clear hbit hb0 HZ hbz hz6 hz' hz hs HK
        go_wp2
        exact ⟨⟨i + 1, z', by omega, HZ2, by go_num, by go_num, by rw [HC.out]; exact HI.out.congr HL.out, HB.out⟩, by simp [intOf]; omega⟩
end Go.Proofs.Ytflflmdlhmhkdab

namespace Go.Proofs.Ytflflmdlhmhkdab
open Go.RowKit
theorem NxI.down {s n a c : Nat} : ∀ {b : Nat}, NxI s n b c → a ≤ b → b ≤ n → cn s a = cn s b → NxI s n a c := by
  intro b
  induction b with
  | zero => intro I h _ _; obtain rfl : a = 0 := (by omega); exact I
  | succ b ih =>
    intro I h hb e
    by_cases ha : a = b + 1
    · rw [ha]; exact I
    · have h1 := cn_mono (s := s) (show a ≤ b by omega)
      have h2 := cn_top b s
      have h3 : bt s b = 0 := by omega
      exact ih (I.skip (by omega) h3) (by omega) (by omega) (by omega)
/-- Behind the number at place j - 1. -/
def pj (s n j : Nat) : Nat := if j = 0 then 0 else lf s n (j - 1) + 1
theorem pj_succ (s n i : Nat) : pj s n (i + 1) = lf s n i + 1 := if_neg (by omega)
theorem pj_cn {s n j : Nat} (hj : j ≤ cn s n) : cn s (pj s n j) = j ∧ pj s n j ≤ n := by
  cases j with
  | zero => exact ⟨rfl, Nat.zero_le _⟩
  | succ i =>
    obtain ⟨a, b, c⟩ := lf_spec (show i < cn s n by omega)
    rw [pj_succ, cn_top, b, c]
    exact ⟨rfl, a⟩
/-- The reference's Next, halfway: from place j on nothing rises. -/
def RnI (s n j : Nat) : Prop := NxI s n (pj s n j) (cn s n - j)
theorem RnI.start (s n : Nat) : RnI s n (cn s n) := by
  obtain ⟨a, b⟩ := pj_cn (Nat.le_refl (cn s n))
  unfold RnI
  rw [Nat.sub_self]
  exact (NxI.start s n).down b (Nat.le_refl _) a
theorem RnI.rise {s n i : Nat} (I : RnI s n (i + 1)) (hi : i < cn s n) (h : lf s n i + (cn s n - i) < n) : nx s n = some (ofs (nxt (lf s n) i) (cn s n)) := by
  obtain ⟨a, b, c⟩ := lf_spec hi
  unfold RnI at I
  rw [pj_succ] at I
  rw [I.rise a b (by omega), show cn s n - (i + 1) + 1 = cn s n - i by omega, ← ofs_nxt hi rfl (cn s n - i), show i + (cn s n - i) = cn s n by omega]
theorem RnI.stay {s n i : Nat} (I : RnI s n (i + 1)) (hi : i < cn s n) (h : ¬ lf s n i + (cn s n - i) < n) : RnI s n i := by
  obtain ⟨a, b, c⟩ := lf_spec hi
  obtain ⟨d, e⟩ := pj_cn (show i ≤ cn s n by omega)
  unfold RnI at I ⊢
  rw [pj_succ] at I
  have h1 := I.stay a b (by omega)
  rw [show cn s n - (i + 1) + 1 = cn s n - i by omega] at h1
  refine h1.down ?_ (by omega) (by rw [d, c])
  cases i with
  | zero => exact Nat.zero_le _
  | succ k =>
    rw [pj_succ]
    obtain ⟨a', b', c'⟩ := lf_spec (show k < cn s n by omega)
    apply Classical.byContradiction
    intro hn
    have := cn_mono (s := s) (show lf s n (k + 1) ≤ lf s n k by omega)
    omega
theorem RnI.none {s n : Nat} (I : RnI s n 0) : nx s n = none := by
  have h := I.2
  rw [show pj s n 0 = 0 from rfl, Nat.pow_zero, Nat.div_one, Nat.sub_zero] at h
  exact h
theorem nxt_lt {s n i : Nat} (hi : i < cn s n) (h : lf s n i + (cn s n - i) < n) {t : Nat} (ht : t < cn s n) : nxt (lf s n) i t < n := by
  unfold nxt
  split
  · exact (lf_spec ht).1
  · omega
theorem andnot_high {s n : Nat} (hs : s < 18446744073709551616) (hn : n ≤ 64) : s &&& (18446744073709551615 - (2 ^ n - 1)) = 2 ^ n * (s / 2 ^ n) := by
  have h1 := Nat.two_pow_pos n
  have h2 : (18446744073709551616 : Nat) = 2 ^ n * 2 ^ (64 - n) := by rw [← Nat.pow_add, show n + (64 - n) = 64 by omega]
  have h3 := Nat.two_pow_pos (64 - n)
  have h4 : 18446744073709551615 - (2 ^ n - 1) = 2 ^ n * (2 ^ (64 - n) - 1) := by
    rw [Nat.mul_sub, ← h2]
    omega
  have h5 := and_low n s (18446744073709551615 - (2 ^ n - 1))
  rw [h4, Nat.mul_mod_right, Nat.and_zero, Nat.mul_div_cancel_left _ h1, Nat.and_two_pow_sub_one_eq_mod, Nat.zero_add] at h5
  rw [h4, h5, Nat.mod_eq_of_lt]
  rw [Nat.div_lt_iff_lt_mul h1, Nat.mul_comm, ← h2]
  exact hs
theorem j_andnot {s n A : Nat} (hs : s < 18446744073709551616) (hn : n ≤ 64) (hA : 2 ^ n - 1 = A) : ∃ z : Nat, bits .andNot .u64 (s : Int) (A : Int) = (z : Int) ∧ (z = 0 ↔ s < 2 ^ n) := by
  have h1 := pow_le_64 hn
  have h2 := Nat.two_pow_pos n
  refine ⟨2 ^ n * (s / 2 ^ n), ?_, ?_⟩
  · rw [u64_andNot_nat s A hs (by omega), ← hA, andnot_high hs hn]
  · constructor
    · intro h
      rcases Nat.mul_eq_zero.1 h with h3 | h3
      · omega
      · apply Classical.byContradiction
        intro hn
        have := Nat.div_pos (Nat.le_of_not_lt hn) h2
        omega
    · intro h
      rw [Nat.div_eq_of_lt h, Nat.mul_zero]
theorem lf_all {s n : Nat} (hn : n ≤ 64) (h : s < 2 ^ n) (t : Nat) : lf s 64 t = lf s n t := by
  have h1 := (lf_high (s := s) (i := n) (64 - n) h).2 t
  rwa [show n + (64 - n) = 64 by omega] at h1
end Go.Proofs.Ytflflmdlhmhkdab
