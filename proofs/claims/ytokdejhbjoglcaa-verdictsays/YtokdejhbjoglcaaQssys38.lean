/-
  Degrees, values, roots and divisors of polynomials: no Go in sight.
  What a check's rows tell.
  What the program's matroid rests on: spans told by kernels, rows of noughts, factors of combinations. No Go in sight.
-/
import Derived.Test.YtokdejhbjoglcaaQssys00
import Derived.Test.YtokdejhbjoglcaaQssys11
import Derived.Test.YtokdejhbjoglcaaQssys19
import Derived.Test.YtokdejhbjoglcaaQssys35
import Derived.Test.YtokdejhbjoglcaaQssys37
import Derived.Test.YtokdejhbjoglcaaQssys31
set_option maxRecDepth 100000
set_option maxHeartbeats 16000000
namespace Go.Proofs.Ytokdejhbjoglcaa

/-- No coefficient from n on. -/
def Above (n : Nat) (p : Nat → Nat) : Prop := ∀ i, n ≤ i → p i = 0
theorem Above.mono {n m : Nat} {p : Nat → Nat} (h : Above n p) (hnm : n ≤ m) : Above m p := fun i hi => h i (by omega)
theorem Above.pa {n : Nat} {p q : Nat → Nat} (hp : Above n p) (hq : Above n q) : Above n (pa p q) := fun i hi => by
 show p i ^^^ q i = 0
 rw [hp i hi, hq i hi]; rfl
theorem pm_above {n m : Nat} {p q : Nat → Nat} (hp : Above n p) (hq : Above m q) (i : Nat) (hi : n + m ≤ i + 1) : pm p q i = 0 := by
 refine qab (fun k _ => ?_)
 by_cases h : n ≤ k
 ·rw [hp k h, qad]
 ·rw [hq (i - k) (by omega), qa4]
theorem Above.pm {n m : Nat} {p q : Nat → Nat} (hp : Above n p) (hq : Above m q) : Above (n + m) (pm p q) := fun i hi => pm_above hp hq i (by omega)
theorem qdb (a b : Nat) : a ^^^ b = 0 ↔ a = b := by
 constructor
 ·intro h
  have : a ^^^ b ^^^ b = 0 ^^^ b := by rw [h]
  rw [Nat.xor_assoc, Nat.xor_self, Nat.xor_zero, Nat.zero_xor] at this
  exact this
 ·rintro rfl; exact Nat.xor_self a
/-! ### Values -/
/-- The value of a polynomial of n coefficients at x. -/
def ev (p : Nat → Nat) (n x : Nat) : Nat := xs (fun i => fm (p i) (fpow x i)) n
/-! ### Roots -/
/-- x and r. -/
def lin (r : Nat) (i : Nat) : Nat := if i = 0 then r else if i = 1 then 1 else 0
theorem qhp (r : Nat) : Above 2 (lin r) := fun i hi => by unfold lin; rw [if_neg (by omega), if_neg (by omega)]
theorem lin_pm (r : Nat) (q : Nat → Nat) (hq : El q) : (∀ i, pm (lin r) q (i + 1) = fm r (q (i + 1)) ^^^ q i) ∧ pm (lin r) q 0 = fm r (q 0) := by
 constructor
 ·intro i
  have z : xs (fun k => fm (lin r (k + 1 + 1)) (q (i + 1 - (k + 1 + 1)))) i = 0 := qab (fun k _ => by
   rw [show lin r (k + 1 + 1) = 0 from qhp r _ (by omega), qad])
  unfold pm
  rw [qdr, qdr, z, Nat.xor_zero]
  show fm (lin r 0) (q (i + 1 - 0)) ^^^ fm (lin r 1) (q (i + 1 - 1)) = _
  rw [show lin r 0 = r from rfl, show lin r 1 = 1 from rfl, Nat.sub_zero, Nat.add_sub_cancel, qat _ (hq i)]
 ·simp only [pm, xs, Nat.zero_xor]
  rfl
/-- A root splits off a factor. -/
theorem factor {n : Nat} {p : Nat → Nat} {r : Nat} (hp : El p) (hr : r < 256) (hn : Above (n + 1) p) (h0 : ev p (n + 1) r = 0) : ∃ q, El q ∧ Above n q ∧ ∀ i, p i = pm (lin r) q i := by
 -- q i: the sum of p (i + 1 + j) times r to the power j
 refine ⟨fun i => xs (fun j => fm (p (i + 1 + j)) (fpow r j)) (n - i), fun i => qeo (fun k _ => qah _ _ (hp _)), fun i hi => by show xs _ (n - i) = 0; rw [show n - i = 0 by omega]; rfl, ?_⟩
 have hel : El (fun i => xs (fun j => fm (p (i + 1 + j)) (fpow r j)) (n - i)) := fun i => qeo (fun k _ => qah _ _ (hp _))
 have step : ∀ i k, fm r (xs (fun j => fm (p (i + 1 + j)) (fpow r j)) k) = xs (fun j => fm (p (i + 1 + j)) (fpow r (j + 1))) k := by
  intro i k
  rw [qbq]
  refine qa5 (fun j _ => ?_)
  simp only [fpow]
  rw [← qag r _ _ hr (hp _), qaa r _ hr (hp _), qag _ _ _ (hp _) hr, qaa r _ hr (fpow_lt r j)]
 have head : ∀ i k, xs (fun j => fm (p (i + j)) (fpow r j)) (k + 1) = p i ^^^ xs (fun j => fm (p (i + 1 + j)) (fpow r (j + 1))) k := by
  intro i k
  rw [qdr]
  show fm (p (i + 0)) (fpow r 0) ^^^ _ = _
  rw [show fpow r 0 = 1 from rfl, Nat.add_zero, qao _ (hp i)]
  congr 1
  refine qa5 (fun j _ => ?_)
  rw [show i + (j + 1) = i + 1 + j by omega]
 intro i
 cases i with
 | zero =>
  rw [(lin_pm r _ hel).2]
  show p 0 = fm r (xs (fun j => fm (p (0 + 1 + j)) (fpow r j)) (n - 0))
  rw [step, Nat.sub_zero]
  have e := head 0 n
  have e2 : xs (fun j => fm (p (0 + j)) (fpow r j)) (n + 1) = 0 := by
   exact (qa5 (fun k _ => by rw [Nat.zero_add])).trans h0
  rw [e2] at e
  exact (qdb _ _).mp e.symm
 | succ i =>
  rw [(lin_pm r _ hel).1 i]
  show p (i + 1) = fm r (xs (fun j => fm (p (i + 1 + 1 + j)) (fpow r j)) (n - (i + 1))) ^^^ xs (fun j => fm (p (i + 1 + j)) (fpow r j)) (n - i)
  rw [step]
  by_cases h : i < n
  ·rw [show n - i = n - (i + 1) + 1 by omega, head (i + 1) (n - (i + 1)), Nat.xor_comm (p (i + 1)), ← Nat.xor_assoc, Nat.xor_self, Nat.zero_xor]
  ·rw [show n - (i + 1) = 0 by omega, show n - i = 0 by omega, hn (i + 1) (by omega)]
   simp [xs]
open Go.RowKit
theorem cn_mod {s m : Nat} : ∀ n, cn (s % 2 ^ m) n = cn s (min n m) := by
 intro n
 induction n with
 | zero => rw [Nat.zero_min]; rfl
 | succ n ih =>
  rw [qaf, ih]
  by_cases h : n < m
  ·rw [show min n m = n by omega, show min (n + 1) m = n + 1 by omega, qaf]
   congr 1
   have h1 := qfq s m n
   have h2 := qcl (s % 2 ^ m) n
   have h3 := qcl s n
   omega
  ·rw [show min n m = m by omega, show min (n + 1) m = m by omega]
   have h1 := qfq s m n
   have h2 := qcl (s % 2 ^ m) n
   omega
theorem lf_mod {s R m t : Nat} (ht : t < cn s m) (hm : m ≤ R) : lf (s % 2 ^ m) R t = lf s R t := by
 have h0 : t < cn s R := Nat.lt_of_lt_of_le ht (qcd hm)
 obtain ⟨a, b, c⟩ := qan h0
 have h1 : lf s R t < m := Classical.byContradiction fun hn => by
  have := qcd (s := s) (show m ≤ lf s R t by omega)
  omega
 have h2 : bt (s % 2 ^ m) (lf s R t) = 1 := (qfq _ _ _).2 ⟨h1, b⟩
 have h3 := (lf_cn a h2).2
 rwa [cn_mod, show min (lf s R t) m = lf s R t by omega, c] at h3
/-- A picked row is no combination of those above just if it is none of those of s with lesser numbers. -/
theorem qi6 {F : Nat → Nat} {r c n s v : Nat} (hF : ∀ i, i < n → F i < 256) (R : Rt r c n) (hv : v < cn s r) : Fst (m2 (pkf F (lf s r) c) (cn s r) c) v ↔ ¬ SS (m2 F r c) r (s % 2 ^ lf s r v) (m2 F r c (lf s r v)) := by
 have hM := qbw hF R
 obtain ⟨a, b, e⟩ := qan hv
 have e1 : ∀ i, i < cn s r → m2 (pkf F (lf s r) c) (cn s r) c i = m2 F r c (lf s r i) := fun i hi => qfv (fun t ht => (qan ht).1) hi
 have e2 : cn (s % 2 ^ lf s r v) r = v := by rw [cn_mod, show min r (lf s r v) = lf s r v by omega, e]
 have hsp := qdd hM r (s % 2 ^ lf s r v)
 rw [e2] at hsp
 have e3 : ∀ t j, t < v → m2 F r c (lf (s % 2 ^ lf s r v) r t) j = m2 (pkf F (lf s r) c) (cn s r) c t j := fun t j ht => by rw [lf_mod (by omega) (by omega), e1 t (by omega)]
 unfold Fst
 rw [e1 v hv]
 refine not_congr ⟨fun h => ?_, fun h => ?_⟩
 ·exact Spn.trans (h.rows (fun t j ht => (e3 t j ht).symm)) hsp.1
 ·exact (Spn.trans h hsp.2).rows e3
/-- What Basis has gathered of the first u places. -/
def Bsu (s R : Nat) (q : Nat → Nat) (u z : Nat) : Prop := z < 2 ^ R ∧ ∀ i, i < R → (bt z i = 1 ↔ ∃ v, v < u ∧ lf s R (q v) = i)
theorem Bsu.start (s R : Nat) (q : Nat → Nat) : Bsu s R q 0 0 := ⟨Nat.two_pow_pos R, fun i _ => by
 rw [qci (n := 0) (by decide) (Nat.zero_le _)]
 exact ⟨fun h => by omega, fun ⟨v, h, _⟩ => by omega⟩⟩
theorem Bsu.step {s R u z : Nat} {q : Nat → Nat} (h : Bsu s R q u z) (hq : q u < cn s R) : Bsu s R q (u + 1) (z ||| 2 ^ lf s R (q u)) := by
 obtain ⟨a, b, c⟩ := qan hq
 refine ⟨Nat.or_lt_two_pow h.1 (Nat.pow_lt_pow_right (by decide) a), fun i hi => ?_⟩
 rw [qb5, qb8, h.2 i hi]
 constructor
 ·rintro (⟨v, h1, h2⟩ | e)
  ·exact ⟨v, by omega, h2⟩
  ·exact ⟨u, by omega, e.symm⟩
 ·rintro ⟨v, h1, h2⟩
  by_cases e : v = u
  ·subst e; exact .inr h2.symm
  ·exact .inl ⟨v, by omega, h2⟩
theorem Bsu.base {F q : Nat → Nat} {r c n s t z : Nat} (hF : ∀ i, i < n → F i < 256) (R : Rt r c n) (h : Bsu s r q t z) (hL : FstL (m2 (pkf F (lf s r) c) (cn s r) c) (cn s r) t q) : BaS (m2 F r c) r s z := by
 refine ⟨h.1, fun i hi => ?_⟩
 rw [h.2 i hi]
 constructor
 ·rintro ⟨v, hv, e⟩
  have h1 := hL.lt v hv
  have h2 := (qi6 hF R h1).1 (hL.is v hv)
  rw [e] at h2
  refine ⟨?_, h2⟩
  rw [← e]
  exact (qan h1).2.1
 ·rintro ⟨h1, h2⟩
  obtain ⟨h3, h4⟩ := lf_cn hi h1
  have h5 : Fst (m2 (pkf F (lf s r) c) (cn s r) c) (cn s i) := (qi6 hF R h3).2 (by rw [h4]; exact h2)
  obtain ⟨u, hu, e⟩ := hL.all _ h3 h5
  exact ⟨u, hu, by rw [e]; exact h4⟩
end Go.Proofs.Ytokdejhbjoglcaa
