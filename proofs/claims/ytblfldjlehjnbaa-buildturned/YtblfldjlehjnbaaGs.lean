/-
  Degrees, values, roots and divisors of polynomials: no Go in sight.
  Divisors of polynomials, and the greatest common one: no Go in sight.
  Lagrange's polynomials: no Go in sight.
  Matrices that send nothing but nothing to nothing: Vandermonde's, Cauchy's, and the identity above Cauchy's.
  Any k rows of the generators; what a check's rows tell.
-/
import Derived.Test.YtblfldjlehjnbaaGb
import Derived.Test.YtblfldjlehjnbaaGd
namespace Go.Proofs.Ytblfldjlehjnbaa

/-- No coefficient from n on. -/
def Above (n : Nat) (p : Nat → Nat) : Prop := ∀ i, n ≤ i → p i = 0
theorem Above.mono {n m : Nat} {p : Nat → Nat} (h : Above n p) (hnm : n ≤ m) : Above m p := fun i hi => h i (by omega)
theorem Above.pa {n : Nat} {p q : Nat → Nat} (hp : Above n p) (hq : Above n q) : Above n (pa p q) := fun i hi => by
  show p i ^^^ q i = 0
  rw [hp i hi, hq i hi]; rfl
theorem pm_above {n m : Nat} {p q : Nat → Nat} (hp : Above n p) (hq : Above m q) (i : Nat) (hi : n + m ≤ i + 1) : pm p q i = 0 := by
  refine xs_zero (fun k _ => ?_)
  by_cases h : n ≤ k
  · rw [hp k h, zero_fm]
  · rw [hq (i - k) (by omega), fm_zero]
theorem Above.pm {n m : Nat} {p q : Nat → Nat} (hp : Above n p) (hq : Above m q) : Above (n + m) (pm p q) := fun i hi => pm_above hp hq i (by omega)
theorem xor_eq_zero_iff (a b : Nat) : a ^^^ b = 0 ↔ a = b := by
  constructor
  · intro h
    have : a ^^^ b ^^^ b = 0 ^^^ b := by rw [h]
    rw [Nat.xor_assoc, Nat.xor_self, Nat.xor_zero, Nat.zero_xor] at this
    exact this
  · rintro rfl; exact Nat.xor_self a
/-! ### Values -/
/-- The value of a polynomial of n coefficients at x. -/
def ev (p : Nat → Nat) (n x : Nat) : Nat := xs (fun i => fm (p i) (fpow x i)) n
/-! ### Roots -/
/-- x and r. -/
def lin (r : Nat) (i : Nat) : Nat := if i = 0 then r else if i = 1 then 1 else 0
theorem lin_above (r : Nat) : Above 2 (lin r) := fun i hi => by unfold lin; rw [if_neg (by omega), if_neg (by omega)]
theorem lin_pm (r : Nat) (q : Nat → Nat) (hq : El q) : (∀ i, pm (lin r) q (i + 1) = fm r (q (i + 1)) ^^^ q i) ∧ pm (lin r) q 0 = fm r (q 0) := by
  constructor
  · intro i
    have z : xs (fun k => fm (lin r (k + 1 + 1)) (q (i + 1 - (k + 1 + 1)))) i = 0 := xs_zero (fun k _ => by
      rw [show lin r (k + 1 + 1) = 0 from lin_above r _ (by omega), zero_fm])
    unfold pm
    rw [xs_front, xs_front, z, Nat.xor_zero]
    show fm (lin r 0) (q (i + 1 - 0)) ^^^ fm (lin r 1) (q (i + 1 - 1)) = _
    rw [show lin r 0 = r from rfl, show lin r 1 = 1 from rfl, Nat.sub_zero, Nat.add_sub_cancel, one_fm _ (hq i)]
  · simp only [pm, xs, Nat.zero_xor]
    rfl
/-- A root splits off a factor. -/
theorem factor {n : Nat} {p : Nat → Nat} {r : Nat} (hp : El p) (hr : r < 256) (hn : Above (n + 1) p) (h0 : ev p (n + 1) r = 0) : ∃ q, El q ∧ Above n q ∧ ∀ i, p i = pm (lin r) q i := by
  -- q i: the sum of p (i + 1 + j) times r to the power j
  refine ⟨fun i => xs (fun j => fm (p (i + 1 + j)) (fpow r j)) (n - i), fun i => xs_lt (fun k _ => fm_lt _ _ (hp _)), fun i hi => by show xs _ (n - i) = 0; rw [show n - i = 0 by omega]; rfl, ?_⟩
  have hel : El (fun i => xs (fun j => fm (p (i + 1 + j)) (fpow r j)) (n - i)) := fun i => xs_lt (fun k _ => fm_lt _ _ (hp _))
  have step : ∀ i k, fm r (xs (fun j => fm (p (i + 1 + j)) (fpow r j)) k) = xs (fun j => fm (p (i + 1 + j)) (fpow r (j + 1))) k := by
    intro i k
    rw [xs_mul_l]
    refine xs_congr (fun j _ => ?_)
    simp only [fpow]
    rw [← fm_assoc r _ _ hr (hp _), fm_comm r _ hr (hp _), fm_assoc _ _ _ (hp _) hr, fm_comm r _ hr (fpow_lt r j)]
  have head : ∀ i k, xs (fun j => fm (p (i + j)) (fpow r j)) (k + 1) = p i ^^^ xs (fun j => fm (p (i + 1 + j)) (fpow r (j + 1))) k := by
    intro i k
    rw [xs_front]
    show fm (p (i + 0)) (fpow r 0) ^^^ _ = _
    rw [show fpow r 0 = 1 from rfl, Nat.add_zero, fm_one _ (hp i)]
    congr 1
    refine xs_congr (fun j _ => ?_)
    rw [show i + (j + 1) = i + 1 + j by omega]
  intro i
  cases i with
  | zero =>
    rw [(lin_pm r _ hel).2]
    show p 0 = fm r (xs (fun j => fm (p (0 + 1 + j)) (fpow r j)) (n - 0))
    rw [step, Nat.sub_zero]
    have e := head 0 n
    have e2 : xs (fun j => fm (p (0 + j)) (fpow r j)) (n + 1) = 0 := by
      exact (xs_congr (fun k _ => by rw [Nat.zero_add])).trans h0
    rw [e2] at e
    exact (xor_eq_zero_iff _ _).mp e.symm
  | succ i =>
    rw [(lin_pm r _ hel).1 i]
    show p (i + 1) = fm r (xs (fun j => fm (p (i + 1 + 1 + j)) (fpow r j)) (n - (i + 1))) ^^^ xs (fun j => fm (p (i + 1 + j)) (fpow r j)) (n - i)
    rw [step]
    by_cases h : i < n
    · rw [show n - i = n - (i + 1) + 1 by omega, head (i + 1) (n - (i + 1)), Nat.xor_comm (p (i + 1)), ← Nat.xor_assoc, Nat.xor_self, Nat.zero_xor]
    · rw [show n - (i + 1) = 0 by omega, show n - i = 0 by omega, hn (i + 1) (by omega)]
      simp [xs]
end Go.Proofs.Ytblfldjlehjnbaa

namespace Go.Proofs.Ytblfldjlehjnbaa

/-- A polynomial: elements, and no coefficient from some place on. -/
def Po (p : Nat → Nat) : Prop := El p ∧ ∃ n, Above n p
theorem Po.pm {p q : Nat → Nat} (hp : Po p) (hq : Po q) : Po (pm p q) := by
  obtain ⟨n, hn⟩ := hp.2
  obtain ⟨m, hm⟩ := hq.2
  exact ⟨pm_el q hp.1, _, hn.pm hm⟩
theorem Po.pa {p q : Nat → Nat} (hp : Po p) (hq : Po q) : Po (pa p q) := by
  obtain ⟨n, hn⟩ := hp.2
  obtain ⟨m, hm⟩ := hq.2
  exact ⟨pa_el hp.1 hq.1, _, (hn.mono (Nat.le_max_left n m)).pa (hm.mono (Nat.le_max_right n m))⟩
theorem Po.zero : Po (fun _ => 0) := ⟨fun _ => (by decide : 0 < 256), 0, fun _ _ => rfl⟩
/-- The number 1. -/
def uno (i : Nat) : Nat := if i = 0 then 1 else 0
theorem Po.uno : Po uno := ⟨fun i => by unfold Go.Proofs.Ytblfldjlehjnbaa.uno; split <;> decide, 1, fun i hi => if_neg (by omega)⟩
theorem uno_pm {p : Nat → Nat} (hp : El p) (i : Nat) : pm uno p i = p i := by
  unfold Go.Proofs.Ytblfldjlehjnbaa.pm
  rw [xs_one (k0 := 0) (by omega) (fun k _ hk => by rw [show uno k = 0 from if_neg hk, zero_fm])]
  show fm 1 (p (i - 0)) = p i
  rw [Nat.sub_zero, one_fm _ (hp i)]
theorem pm_congr {p p' q q' : Nat → Nat} (hp : ∀ i, p i = p' i) (hq : ∀ i, q i = q' i) (i : Nat) : pm p q i = pm p' q' i := xs_congr (fun k _ => by rw [hp, hq])
theorem pm_zero_r (p : Nat → Nat) (i : Nat) : pm p (fun _ => 0) i = 0 := xs_zero (fun _ _ => fm_zero _)
/-- d divides p. -/
def Dv (d p : Nat → Nat) : Prop := ∃ q, Po q ∧ ∀ i, p i = pm d q i
theorem Dv.refl {d : Nat → Nat} (hd : El d) : Dv d d := ⟨uno, Po.uno, fun i => by rw [pm_comm hd Po.uno.1, uno_pm hd]⟩
theorem Dv.zero (d : Nat → Nat) : Dv d (fun _ => 0) := ⟨_, Po.zero, fun i => (pm_zero_r d i).symm⟩
theorem Dv.congr {d d' p p' : Nat → Nat} (h : Dv d p) (hd : ∀ i, d i = d' i) (hp : ∀ i, p i = p' i) : Dv d' p' := by
  obtain ⟨q, hq, h⟩ := h
  exact ⟨q, hq, fun i => by rw [← hp i, h i]; exact pm_congr hd (fun _ => rfl) i⟩
theorem Dv.pa {d p q : Nat → Nat} (hp : Dv d p) (hq : Dv d q) : Dv d (pa p q) := by
  obtain ⟨a, ha, h1⟩ := hp
  obtain ⟨b, hb, h2⟩ := hq
  refine ⟨_, ha.pa hb, fun i => ?_⟩
  rw [pm_pa]
  show p i ^^^ q i = pm d a i ^^^ pm d b i
  rw [h1, h2]
theorem Dv.pm {d p : Nat → Nat} (hd : El d) (hp : Dv d p) {r : Nat → Nat} (hr : Po r) : Dv d (pm p r) := by
  obtain ⟨a, ha, h1⟩ := hp
  refine ⟨_, ha.pm hr, fun i => ?_⟩
  rw [← pm_assoc r hd ha.1]
  exact pm_congr h1 (fun _ => rfl) i
theorem Dv.trans {a b c : Nat → Nat} (ha : El a) (h1 : Dv a b) (h2 : Dv b c) : Dv a c := by
  obtain ⟨q, hq, h2⟩ := h2
  exact (Dv.pm ha h1 hq).congr (fun _ => rfl) (fun i => (h2 i).symm)
end Go.Proofs.Ytblfldjlehjnbaa

namespace Go.Proofs.Ytblfldjlehjnbaa
end Go.Proofs.Ytblfldjlehjnbaa

namespace Go.Proofs.Ytblfldjlehjnbaa
/-- A matrix that sends nothing else to nothing has rank as many as columns. -/
theorem rk_of_ker {N : Nat → Nat → Nat} (hN : El2 N) {r c : Nat} (hc : ∀ i j, i < r → c ≤ j → N i j = 0) (h : ∀ x, El x → (∀ i, i < r → dt (N i) x c = 0) → ∀ j, j < c → x j = 0) : Rk N r c := by
  have hT : Rk (tpo N r) c c := by
    refine ⟨tpo N r, tpo_el hN r, fun a ha hz j hj => ?_, SpEq.refl (tpo_el hN r) c⟩
    refine h a ha (fun i hi => ?_) j hj
    rw [← hz i]
    exact xs_congr (fun t ht => by unfold tpo; rw [if_pos hi, fm_comm _ _ (hN i t) (ha t)])
  obtain ⟨k, hk⟩ := rk_ex hN r
  have := rk_tpo hc hk hT
  subst this
  exact hk
end Go.Proofs.Ytblfldjlehjnbaa

namespace Go.Proofs.Ytblfldjlehjnbaa
/-- A sum of which only some are not 0. -/
theorem xs_nth (P : Nat → Bool) (f : Nat → Nat) : ∀ n, (∀ j, j < n → P j = false → f j = 0) → xs f n = xs (fun t => f (nth P n t)) (cnt P n) := by
  intro n
  induction n with
  | zero => intro _; rfl
  | succ n ih =>
    intro h
    have e := ih (fun j hj => h j (by omega))
    have hlow : ∀ t, t < cnt P n → f (nth P (n + 1) t) = f (nth P n t) := fun t ht => by
      show f (if P n = true ∧ t = cnt P n then n else nth P n t) = _
      rw [if_neg (by omega)]
    cases hp : P n with
    | false =>
      rw [cnt_no hp, xs_congr hlow, ← e]
      show xs f n ^^^ f n = _
      rw [h n (by omega) hp, Nat.xor_zero]
    | true =>
      rw [cnt_yes hp]
      show xs f n ^^^ f n = xs (fun t => f (nth P (n + 1) t)) (cnt P n) ^^^ f (nth P (n + 1) (cnt P n))
      rw [xs_congr hlow, ← e]
      congr 1
      show f n = f (if P n = true ∧ cnt P n = cnt P n then n else nth P n (cnt P n))
      rw [if_pos ⟨hp, rfl⟩]
/-- What a product's row does. -/
theorem dt_pr {A B : Nat → Nat → Nat} (hA : El2 A) (hB : El2 B) (n c i : Nat) (x : Nat → Nat) : dt (pr A B n i) x c = dt (A i) (fun t => dt (B t) x c) n := dt_lc (hA i) hB n x c
theorem dt_dl {k j : Nat} (hj : j < k) {x : Nat → Nat} (hx : El x) : dt (dl j) x k = x j := by
  have : dt (dl j) x k = fm (dl j j) (x j) := xs_one hj (fun t _ hne => by show fm (dl j t) (x t) = 0; rw [dl_ne hne, zero_fm])
  rw [this, dl_self, one_fm _ (hx j)]
/-- What all of the kernel's rows send to nothing is a combination of the rows. -/
theorem chk_span {R : Nat → Nat → Nat} (hR : El2 R) {r k c : Nat} {p : Nat → Nat} (h : Rdf R r k p) (hc : ∀ i, i < k → p i < c) (hcut : ∀ i j, i < r → c ≤ j → R i j = 0) {y : Nat → Nat} (hy : El y) (h0 : ∀ j, c ≤ j → y j = 0) (hk : ∀ f, f < c → pvt p k f = false → dt (kv R p k f) y c = 0) : Spn R r y := by
  refine ⟨fun t => if t < k then y (p t) else 0, fun t => ite_lt _ _ (hy _), fun j => ?_⟩
  rw [h.short]
  have e : lc (fun t => if t < k then y (p t) else 0) R k j = lc (fun t => y (p t)) R k j := lc_congr (fun i hi => if_pos hi) (fun _ _ => rfl)
  rw [e]
  by_cases hj : c ≤ j
  · rw [h0 j hj]
    exact (xs_zero (fun i hi => by rw [hcut i j (by have := h.kr; omega) hj, fm_zero])).symm
  · cases hp : pvt p k j with
    | true =>
      obtain ⟨t, ht, rfl⟩ := (pvt_iff p k j).mp hp
      exact (h.coord (fun _ => hy _) ht).symm
    | false =>
      have e1 := hk j (by omega) hp
      have e2 : dt (kv R p k j) y c = y j ^^^ dt (pp p k (fun i => R i j)) y c := by
        have : ∀ l, l < c → fm (kv R p k j l) (y l) = fm (dl j l) (y l) ^^^ fm (pp p k (fun i => R i j) l) (y l) := fun l _ => by
          unfold kv
          by_cases el : l = j
          · subst el
            rw [if_pos rfl, dl_self, pp_free _ hp, zero_fm, Nat.xor_zero]
          · rw [if_neg el, dl_ne el, zero_fm, Nat.zero_xor]
        unfold dt
        rw [xs_congr this, xs_add]
        congr 1
        exact dt_dl (by omega) hy
      rw [e2] at e1
      have e3 := (xor_eq_zero_iff _ _).mp e1
      rw [e3]
      have e4 : dt (pp p k (fun i => R i j)) y c = dt y (pp p k (fun i => R i j)) c := xs_congr (fun l _ => fm_comm _ _ (pp_el p k (fun i => hR i j) l) (hy l))
      rw [e4, dt_pp hy hc]
      rfl
theorem chk_span' {R : Nat → Nat → Nat} (hR : El2 R) {r k c : Nat} {p : Nat → Nat} (h : Rdf R r k p) (hc : ∀ i, i < k → p i < c) {y : Nat → Nat} (hy : Spn R r y) {f : Nat} (hf : f < c) (hp : pvt p k f = false) : dt (kv R p k f) y c = 0 := by
  have e : dt (kv R p k f) y c = dt y (kv R p k f) c := xs_congr (fun l _ => fm_comm _ _ (kv_el hR p k f l) (hy.el l))
  rw [e]
  exact dt_span hR hy (h.kv hR hc hp hf)
end Go.Proofs.Ytblfldjlehjnbaa
