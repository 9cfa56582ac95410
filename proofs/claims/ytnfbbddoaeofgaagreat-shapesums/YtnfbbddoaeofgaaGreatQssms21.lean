/-
  Degrees, values, roots and divisors of polynomials: no Go in sight.
-/
import Derived.Test.YtnfbbddoaeofgaaGreatQssms00
import Derived.Test.YtnfbbddoaeofgaaGreatQssms06
set_option maxRecDepth 100000
set_option maxHeartbeats 16000000
namespace Go.Proofs.YtnfbbddoaeofgaaGreat

/-- No coefficient from n on. -/
def Above (n : Nat) (p : Nat → Nat) : Prop := ∀ i, n ≤ i → p i = 0
theorem Above.mono {n m : Nat} {p : Nat → Nat} (h : Above n p) (hnm : n ≤ m) : Above m p := fun i hi => h i (by omega)
theorem Above.pa {n : Nat} {p q : Nat → Nat} (hp : Above n p) (hq : Above n q) : Above n (pa p q) := fun i hi => by
 show p i ^^^ q i = 0
 rw [hp i hi, hq i hi]; rfl
theorem pm_above {n m : Nat} {p q : Nat → Nat} (hp : Above n p) (hq : Above m q) (i : Nat) (hi : n + m ≤ i + 1) : pm p q i = 0 := by
 refine qad (fun k _ => ?_)
 by_cases h : n ≤ k
 ·rw [hp k h, qa9]
 ·rw [hq (i - k) (by omega), qaa]
theorem Above.pm {n m : Nat} {p q : Nat → Nat} (hp : Above n p) (hq : Above m q) : Above (n + m) (pm p q) := fun i hi => pm_above hp hq i (by omega)
theorem top_exists {N : Nat} {p : Nat → Nat} (h : Above N p) : (∀ i, p i = 0) ∨ ∃ n, n < N ∧ p n ≠ 0 ∧ Above (n + 1) p := by
 induction N with
 | zero => exact .inl (fun i => h i (by omega))
 | succ N ih =>
  by_cases e : p N = 0
  ·have h' : Above N p := fun i hi => by
    by_cases ei : i = N
    ·rw [ei]; exact e
    ·exact h i (by omega)
   rcases ih h' with h0 | ⟨n, hn, h1, h2⟩
   ·exact .inl h0
   ·exact .inr ⟨n, by omega, h1, h2⟩
  ·exact .inr ⟨N, by omega, e, h⟩
theorem qay (a b : Nat) : a ^^^ b = 0 ↔ a = b := by
 constructor
 ·intro h
  have : a ^^^ b ^^^ b = 0 ^^^ b := by rw [h]
  rw [Nat.xor_assoc, Nat.xor_self, Nat.xor_zero, Nat.zero_xor] at this
  exact this
 ·rintro rfl; exact Nat.xor_self a
/-! ### Values -/
theorem fpow_add (x a b : Nat) : fpow x (a + b) = fm (fpow x a) (fpow x b) := by
 induction b with
 | zero => rw [Nat.add_zero]; simp only [fpow]; rw [qbh _ (qb5 x a)]
 | succ b ih => rw [← Nat.add_assoc]; simp only [fpow]; rw [ih, qaf _ _ _ (qb5 x a) (qb5 x b)]
/-- The value of a polynomial of n coefficients at x. -/
def ev (p : Nat → Nat) (n x : Nat) : Nat := xs (fun i => fm (p i) (fpow x i)) n
theorem ev_lt {p : Nat → Nat} (hp : El p) (n x : Nat) : ev p n x < 256 := qd1 (fun k _ => qak _ _ (hp k))
theorem qic {p : Nat → Nat} {n m : Nat} (hp : Above n p) (h : n ≤ m) (x : Nat) : ev p m x = ev p n x :=
 qhj h (fun k h1 _ => by rw [hp k h1, qa9])
theorem ev_congr {p q : Nat → Nat} {n : Nat} (h : ∀ i, i < n → p i = q i) (x : Nat) : ev p n x = ev q n x := qa6 (fun k hk => by rw [h k hk])
theorem ev_pm {p q : Nat → Nat} {n m x : Nat} (hp : El p) (hq : El q) (hn : Above n p) (hm : Above m q) : ev (pm p q) (n + m) x = fm (ev p n x) (ev q m x) := by
 have e1 : ev (pm p q) (n + m) x = xs (fun i => xs (fun a => xs (fun b => if a + b = i then fm (fm (p a) (q b)) (fpow x i) else 0) (n + m)) (n + m)) (n + m) := by
  refine qa6 (fun i hi => ?_)
  rw [pm_pairs p q i (n + m) hi, qbr _ _ _ (fun a _ => qd1 (fun b _ => qen _ _ (qak _ _ (hp a))))]
  refine qa6 (fun a _ => ?_)
  rw [qbr _ _ _ (fun b _ => qen _ _ (qak _ _ (hp a)))]
  exact qa6 (fun b _ => fm_ite _ _ _)
 rw [e1, qd2]
 have e2 : ∀ a, a < n + m → xs (fun i => xs (fun b => if a + b = i then fm (fm (p a) (q b)) (fpow x i) else 0) (n + m)) (n + m) = xs (fun b => fm (fm (p a) (fpow x a)) (fm (q b) (fpow x b))) (n + m) := by
  intro a ha
  rw [qd2]
  refine qa6 (fun b hb => ?_)
  by_cases h : a + b < n + m
  ·rw [qas (k0 := a + b) h (fun i _ hi => if_neg (by omega)), if_pos rfl, fpow_add x a b]
   rw [qaf _ _ _ (hp a) (hq b), qaf _ _ _ (hp a) (qb5 x a)]
   rw [← qaf (q b) _ _ (hq b) (qb5 x a), qac (q b) _ (hq b) (qb5 x a), qaf _ _ _ (qb5 x a) (hq b)]
  ·rw [qad (fun i hi => if_neg (by omega))]
   by_cases h2 : n ≤ a
   ·rw [hn a h2, qa9, qa9]
   ·rw [hm b (by omega), qa9, qaa]
 rw [qa6 e2]
 rw [← qic hn (by omega : n ≤ n + m) x, ← qic hm (by omega : m ≤ n + m) x]
 unfold ev
 rw [qbr _ _ _ (fun k _ => qak _ _ (hp k))]
 exact qa6 (fun a _ => (qbq _ _ _).symm)

/-! ### Roots -/
/-- x and r. -/
def lin (r : Nat) (i : Nat) : Nat := if i = 0 then r else if i = 1 then 1 else 0
theorem lin_el {r : Nat} (h : r < 256) : El (lin r) := fun i => by unfold lin; split; exact h; split <;> decide
theorem qey (r : Nat) : Above 2 (lin r) := fun i hi => by unfold lin; rw [if_neg (by omega), if_neg (by omega)]
theorem ev_lin (r x : Nat) (hr : r < 256) (hx : x < 256) : ev (lin r) 2 x = r ^^^ x := by
 simp only [ev, xs, lin, fpow, Nat.zero_xor]
 simp only [if_true, if_neg (show ¬ 1 = 0 by decide)]
 rw [qbh r hr, qao x hx, qao x hx]
theorem lin_pm (r : Nat) (q : Nat → Nat) (hq : El q) : (∀ i, pm (lin r) q (i + 1) = fm r (q (i + 1)) ^^^ q i) ∧ pm (lin r) q 0 = fm r (q 0) := by
 constructor
 ·intro i
  have z : xs (fun k => fm (lin r (k + 1 + 1)) (q (i + 1 - (k + 1 + 1)))) i = 0 := qad (fun k _ => by
   rw [show lin r (k + 1 + 1) = 0 from qey r _ (by omega), qa9])
  unfold pm
  rw [qe1, qe1, z, Nat.xor_zero]
  show fm (lin r 0) (q (i + 1 - 0)) ^^^ fm (lin r 1) (q (i + 1 - 1)) = _
  rw [show lin r 0 = r from rfl, show lin r 1 = 1 from rfl, Nat.sub_zero, Nat.add_sub_cancel, qao _ (hq i)]
 ·simp only [pm, xs, Nat.zero_xor]
  rfl
/-- A root splits off a factor. -/
theorem factor {n : Nat} {p : Nat → Nat} {r : Nat} (hp : El p) (hr : r < 256) (hn : Above (n + 1) p) (h0 : ev p (n + 1) r = 0) : ∃ q, El q ∧ Above n q ∧ ∀ i, p i = pm (lin r) q i := by
 -- q i: the sum of p (i + 1 + j) times r to the power j
 refine ⟨fun i => xs (fun j => fm (p (i + 1 + j)) (fpow r j)) (n - i), fun i => qd1 (fun k _ => qak _ _ (hp _)), fun i hi => by show xs _ (n - i) = 0; rw [show n - i = 0 by omega]; rfl, ?_⟩
 have hel : El (fun i => xs (fun j => fm (p (i + 1 + j)) (fpow r j)) (n - i)) := fun i => qd1 (fun k _ => qak _ _ (hp _))
 have step : ∀ i k, fm r (xs (fun j => fm (p (i + 1 + j)) (fpow r j)) k) = xs (fun j => fm (p (i + 1 + j)) (fpow r (j + 1))) k := by
  intro i k
  rw [qbq]
  refine qa6 (fun j _ => ?_)
  simp only [fpow]
  rw [← qaf r _ _ hr (hp _), qac r _ hr (hp _), qaf _ _ _ (hp _) hr, qac r _ hr (qb5 r j)]
 have head : ∀ i k, xs (fun j => fm (p (i + j)) (fpow r j)) (k + 1) = p i ^^^ xs (fun j => fm (p (i + 1 + j)) (fpow r (j + 1))) k := by
  intro i k
  rw [qe1]
  show fm (p (i + 0)) (fpow r 0) ^^^ _ = _
  rw [show fpow r 0 = 1 from rfl, Nat.add_zero, qbh _ (hp i)]
  congr 1
  refine qa6 (fun j _ => ?_)
  rw [show i + (j + 1) = i + 1 + j by omega]
 intro i
 cases i with
 | zero =>
  rw [(lin_pm r _ hel).2]
  show p 0 = fm r (xs (fun j => fm (p (0 + 1 + j)) (fpow r j)) (n - 0))
  rw [step, Nat.sub_zero]
  have e := head 0 n
  have e2 : xs (fun j => fm (p (0 + j)) (fpow r j)) (n + 1) = 0 := by
   exact (qa6 (fun k _ => by rw [Nat.zero_add])).trans h0
  rw [e2] at e
  exact (qay _ _).mp e.symm
 | succ i =>
  rw [(lin_pm r _ hel).1 i]
  show p (i + 1) = fm r (xs (fun j => fm (p (i + 1 + 1 + j)) (fpow r j)) (n - (i + 1))) ^^^ xs (fun j => fm (p (i + 1 + j)) (fpow r j)) (n - i)
  rw [step]
  by_cases h : i < n
  ·rw [show n - i = n - (i + 1) + 1 by omega, head (i + 1) (n - (i + 1)), Nat.xor_comm (p (i + 1)), ← Nat.xor_assoc, Nat.xor_self, Nat.zero_xor]
  ·rw [show n - (i + 1) = 0 by omega, show n - i = 0 by omega, hn (i + 1) (by omega)]
   simp [xs]
/-- n roots, all unlike, of a polynomial with n coefficients: it is 0. -/
theorem qh5 (n : Nat) : ∀ (p rt : Nat → Nat), El p → Above n p → (∀ k, k < n → rt k < 256) → (∀ j k, j < n → k < n → rt j = rt k → j = k) → (∀ k, k < n → ev p n (rt k) = 0) → ∀ i, p i = 0 := by
 induction n with
 | zero => intro p rt _ ha _ _ _ i; exact ha i (by omega)
 | succ n ih =>
  intro p rt hp ha hb hi hr i
  obtain ⟨q, hq, hqa, hpq⟩ := factor hp (hb n (by omega)) ha (hr n (by omega))
  have hz : ∀ i, q i = 0 := by
   refine ih q rt hq hqa (fun k hk => hb k (by omega)) (fun j k hj hk => hi j k (by omega) (by omega)) (fun k hk => ?_)
   have e := hr k (by omega)
   have e2 : ev p (2 + n) (rt k) = 0 := by rw [qic ha (by omega)]; exact e
   rw [ev_congr (q := pm (lin (rt n)) q) (fun i _ => hpq i), ev_pm (lin_el (hb n (by omega))) hq (qey _) hqa, ev_lin _ _ (hb n (by omega)) (hb k (by omega))] at e2
   rcases (qgp _ _ (qbg _ _ (hb n (by omega)) (hb k (by omega))) (ev_lt hq _ _)).mp e2 with h | h
   ·have := hi n k (by omega) (by omega) ((qay _ _).mp h)
    omega
   ·exact h
  rw [hpq i]
  exact qad (fun k _ => by rw [hz, qaa])
end Go.Proofs.YtnfbbddoaeofgaaGreat
