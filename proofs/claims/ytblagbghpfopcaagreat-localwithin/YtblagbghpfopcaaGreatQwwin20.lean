/-
  Sets of a matrix's rows, each as a number whose bits say which rows it has: what they span, their ranks, bases and circuits. No Go in sight.
  Contracts of the rows' reference: bad, rank, Rank, Free, Covers.
  Contracts of the rows' reference: Rank, Free, Covers.
-/
import Derived.Test.YtblagbghpfopcaaGreatQwwin00
import Derived.Test.YtblagbghpfopcaaGreatQwwin07
import Derived.Test.YtblagbghpfopcaaGreatQwwin01
import Derived.Test.YtblagbghpfopcaaGreatQwwin16
import Derived.Test.YtblagbghpfopcaaGreatQwwin11
import Derived.Test.YtblagbghpfopcaaGreatQwwin19
set_option maxRecDepth 100000
set_option maxHeartbeats 16000000
namespace Go.Proofs.YtblagbghpfopcaaGreat
theorem qar (s i : Nat) : bt s i = 1 ↔ s.testBit i = true := by
 rw [Nat.testBit_eq_decide_div_mod_eq]
 simp [bt]
theorem qao {s i : Nat} (h : ¬ bt s i = 1) : bt s i = 0 := by have := qcn s i; omega
theorem qfh {s t : Nat} (h : ∀ i, bt s i = 1 ↔ bt t i = 1) : s = t := by
 apply Nat.eq_of_testBit_eq
 intro i
 have h1 := h i
 rw [qar, qar] at h1
 cases hs : s.testBit i <;> cases ht : t.testBit i <;> simp_all
theorem qbj (s t i : Nat) : bt (s ||| t) i = 1 ↔ bt s i = 1 ∨ bt t i = 1 := by
 rw [qar, qar, qar, Nat.testBit_or]
 simp
theorem bt_and (s t i : Nat) : bt (s &&& t) i = 1 ↔ bt s i = 1 ∧ bt t i = 1 := by
 rw [qar, qar, qar, Nat.testBit_and]
 simp
theorem qbp (i j : Nat) : bt (2 ^ i) j = 1 ↔ j = i := by
 rw [qar, Nat.testBit_two_pow]
 simp [eq_comm]
theorem qm9 (s n i : Nat) : bt (s % 2 ^ n) i = 1 ↔ i < n ∧ bt s i = 1 := by
 rw [qar, qar, Nat.testBit_mod_two_pow]
 simp
theorem qci {s n i : Nat} (h : s < 2 ^ n) (hi : n ≤ i) : bt s i = 0 := by
 unfold bt
 rw [Nat.div_eq_of_lt (Nat.lt_of_lt_of_le h (Nat.pow_le_pow_right (by decide) hi))]
theorem bt_diff {s t : Nat} (hs : s < 2 ^ 64) (ht : t < 2 ^ 64) (i : Nat) : bt (s &&& (18446744073709551615 - t)) i = 1 ↔ bt s i = 1 ∧ ¬ bt t i = 1 := by
 rw [bt_and]
 by_cases hi : i < 64
 ·have e : (18446744073709551615 : Nat) - t = 2 ^ 64 - (t + 1) := by omega
  rw [e, qar (2 ^ 64 - (t + 1)), Nat.testBit_two_pow_sub_succ ht, qar t]
  simp [hi]
 ·have h1 := qci hs (show 64 ≤ i by omega)
  constructor
  ·rintro ⟨h, _⟩; omega
  ·rintro ⟨h, _⟩; omega
theorem qgv {s R i : Nat} (hi : i < R) (h : bt s i = 1) : cn s i < cn s R ∧ lf s R (cn s i) = i := by
 have h1 := qai i s
 have h2 := qbq (s := s) (show i + 1 ≤ R by omega)
 have h3 : cn s i < cn s R := by omega
 obtain ⟨a, b, c⟩ := qal h3
 refine ⟨h3, ?_⟩
 rcases Nat.lt_trichotomy (lf s R (cn s i)) i with h4 | h4 | h4
 ·have h5 := qai (lf s R (cn s i)) s
  have h6 := qbq (s := s) (show lf s R (cn s i) + 1 ≤ i by omega)
  omega
 ·exact h4
 ·have h6 := qbq (s := s) (show i + 1 ≤ lf s R (cn s i) by omega)
  omega
/-- The rows of a set, the others noughts. -/
def mk (M : Nat → Nat → Nat) (s i j : Nat) : Nat := if bt s i = 1 then M i j else 0
theorem qjt {M : Nat → Nat → Nat} (hM : El2 M) (s : Nat) : El2 (mk M s) := fun i j => by unfold mk; split; exact hM i j; decide
theorem qgw {M : Nat → Nat → Nat} {s i : Nat} (h : bt s i = 1) : mk M s i = M i := funext fun _ => if_pos h
theorem qma {M : Nat → Nat → Nat} {s i : Nat} (h : ¬ bt s i = 1) : mk M s i = fun _ => 0 := funext fun _ => if_neg h
/-- A combination of the rows of a set. -/
def SS (M : Nat → Nat → Nat) (R s : Nat) (y : Nat → Nat) : Prop := Spn (mk M s) R y
theorem qcj {M : Nat → Nat → Nat} (hM : El2 M) {R s i : Nat} (hi : i < R) (h : bt s i = 1) : SS M R s (M i) := by
 have h1 := qab (qjt hM s) hi
 rw [qgw h] at h1
 exact h1
theorem qhi {M N : Nat → Nat → Nat} {R s r : Nat} (h : ∀ i, i < R → bt s i = 1 → Spn N r (M i)) : Le (mk M s) R N r := fun i hi => by
 by_cases hb : bt s i = 1
 ·rw [qgw hb]; exact h i hi hb
 ·rw [qma hb]; exact qd1 N r
theorem qdn {M : Nat → Nat → Nat} (hM : El2 M) {R s t : Nat} (h : ∀ i, i < R → bt s i = 1 → bt t i = 1) : Le (mk M s) R (mk M t) R := qhi (fun i hi hb => qcj hM hi (h i hi hb))
theorem SS.sub {M : Nat → Nat → Nat} (hM : El2 M) {R s t : Nat} {y : Nat → Nat} (hy : SS M R s y) (h : ∀ i, i < R → bt s i = 1 → bt t i = 1) : SS M R t y := Spn.trans hy (qdn hM h)
/-- The rank of the rows of a set. -/
def RS (M : Nat → Nat → Nat) (R s k : Nat) : Prop := Rk (mk M s) R k
theorem qg9 {M : Nat → Nat → Nat} (hM : El2 M) (R s : Nat) : ∃ k, RS M R s k := rk_ex (qjt hM s) R
theorem RS.one {M : Nat → Nat → Nat} (hM : El2 M) {R s k l : Nat} (h : RS M R s k) (h2 : RS M R s l) : k = l := Rk.unique h h2 (SpEq.refl (qjt hM s) R)
theorem RS.congr {M : Nat → Nat → Nat} {R s t k : Nat} (h : RS M R s k) (e : ∀ i, i < R → (bt s i = 1 ↔ bt t i = 1)) : RS M R t k := Rk.at h (fun i j hi => by
 unfold mk
 by_cases hb : bt s i = 1
 ·rw [if_pos hb, if_pos ((e i hi).1 hb)]
 ·rw [if_neg hb, if_neg (fun h => hb ((e i hi).2 h))])
theorem SS.congr {M : Nat → Nat → Nat} (hM : El2 M) {R s t : Nat} {y : Nat → Nat} (h : SS M R s y) (e : ∀ i, i < R → (bt s i = 1 ↔ bt t i = 1)) : SS M R t y := h.sub hM (fun i hi hb => (e i hi).1 hb)
/-- The rows of a set, and one more behind them. -/
def mkx (M : Nat → Nat → Nat) (R s i t : Nat) : Nat → Nat := if t = R then M i else mk M s t
theorem qio {M : Nat → Nat → Nat} (hM : El2 M) (R s i : Nat) : El2 (mkx M R s i) := fun t j => by unfold mkx; split; exact hM i j; exact qjt hM s t j
theorem qdl (M : Nat → Nat → Nat) {R s i t : Nat} (ht : t < R) : mkx M R s i t = mk M s t := if_neg (by omega)
theorem qga (M : Nat → Nat → Nat) (R s i : Nat) : mkx M R s i R = M i := if_pos rfl
theorem qip {M : Nat → Nat → Nat} (hM : El2 M) {R s i : Nat} (hi : i < R) : SpEq (mkx M R s i) (R + 1) (mk M (s ||| 2 ^ i)) R := by
 constructor
 ·intro t ht
  by_cases e : t = R
  ·subst e
   rw [qga]
   exact qcj hM hi ((qbj _ _ _).2 (.inr ((qbp i i).2 rfl)))
  ·rw [qdl M (by omega)]
   exact qdn hM (fun j _ hb => (qbj _ _ _).2 (.inl hb)) t (by omega)
 ·refine qhi (fun t ht hb => ?_)
  rcases (qbj _ _ _).1 hb with h | h
  ·have h1 := qab (qio hM R s i) (r := R + 1) (show t < R + 1 by omega)
   rw [qdl M ht, qgw h] at h1
   exact h1
  ·rw [qbp] at h
   subst h
   have h1 := qab (qio hM R s t) (r := R + 1) (show R < R + 1 by omega)
   rw [qga] at h1
   exact h1
theorem RS.same {M : Nat → Nat → Nat} (hM : El2 M) {R s i k : Nat} (hi : i < R) (h : RS M R s k) (hs : SS M R s (M i)) : RS M R (s ||| 2 ^ i) k := by
 have h1 : Rk (mkx M R s i) R k := Rk.at h (fun t j ht => by rw [qdl M ht])
 have h2 : Spn (mkx M R s i) R (mkx M R s i R) := by
  rw [qga]
  exact Spn.rows hs (fun t j ht => by rw [qdl M ht])
 exact (h1.same (qio hM R s i) h2).span (qip hM hi)
theorem RS.more {M : Nat → Nat → Nat} (hM : El2 M) {R s i k : Nat} (hi : i < R) (h : RS M R s k) (hs : ¬ SS M R s (M i)) : RS M R (s ||| 2 ^ i) (k + 1) := by
 have h1 : Rk (mkx M R s i) R k := Rk.at h (fun t j ht => by rw [qdl M ht])
 have h2 : ¬ Spn (mkx M R s i) R (mkx M R s i R) := by
  rw [qga]
  exact fun h => hs (Spn.rows h (fun t j ht => by rw [qdl M ht]))
 exact (h1.more (qio hM R s i) h2).span (qip hM hi)
theorem RS.add {M : Nat → Nat → Nat} (hM : El2 M) {R s i k l : Nat} (hi : i < R) (h : RS M R s k) (h2 : RS M R (s ||| 2 ^ i) l) : (SS M R s (M i) ∧ l = k) ∨ (¬ SS M R s (M i) ∧ l = k + 1) := by
 by_cases hs : SS M R s (M i)
 ·exact .inl ⟨hs, h2.one hM (h.same hM hi hs)⟩
 ·exact .inr ⟨hs, h2.one hM (h.more hM hi hs)⟩
theorem RS.mono {M : Nat → Nat → Nat} (hM : El2 M) {R s t k l : Nat} (h : RS M R s k) (h2 : RS M R t l) (hst : ∀ i, i < R → bt s i = 1 → bt t i = 1) : k ≤ l := Rk.mono h2 h (qdn hM hst)
theorem rs_none {M : Nat → Nat → Nat} {R s : Nat} (hM : El2 M) (h : ∀ i, i < R → ¬ bt s i = 1) : RS M R s 0 := by
 obtain ⟨k, hk⟩ := qg9 hM R s
 have h1 : k ≤ 0 := Rk.le hk (N := M) (s := 0) (qhi (fun i hi hb => absurd hb (h i hi)))
 obtain rfl : k = 0 := by omega
 exact hk
/-- The picked rows span what the set's rows span. -/
theorem qdb {M : Nat → Nat → Nat} (hM : El2 M) (R s : Nat) : SpEq (fun t => M (lf s R t)) (cn s R) (mk M s) R := by
 constructor
 ·intro t ht
  obtain ⟨a, b, c⟩ := qal ht
  exact qcj hM a b
 ·refine qhi (fun i hi hb => ?_)
  obtain ⟨a, b⟩ := qgv hi hb
  have h1 := qab (M := fun t => M (lf s R t)) (fun t j => hM _ j) a
  rw [← b]
  exact h1
theorem qmb {M : Nat → Nat → Nat} (hM : El2 M) {R s k : Nat} : Rk (fun t => M (lf s R t)) (cn s R) k ↔ RS M R s k :=
 ⟨fun h => h.span (qdb hM R s), fun h => Rk.span h (qdb hM R s).symm⟩
theorem RS.le {M : Nat → Nat → Nat} (hM : El2 M) {R s k : Nat} (h : RS M R s k) : k ≤ cn s R := Rk.rows (M := fun t => M (lf s R t)) (fun _ j => hM _ j) ((qmb hM).2 h)
theorem qiq {t n : Nat} (h : bt t n = 1) : t % 2 ^ (n + 1) = t % 2 ^ n ||| 2 ^ n := by
 rw [qke (Nat.mod_lt _ (Nat.two_pow_pos n)), qk9, h, Nat.mul_one]
theorem qgb {t n : Nat} (h : ¬ bt t n = 1) : t % 2 ^ (n + 1) = t % 2 ^ n := by
 rw [qk9, qao h]
 rfl
theorem qgx {u t n : Nat} (h : bt t n = 1) : u ||| t % 2 ^ (n + 1) = (u ||| t % 2 ^ n) ||| 2 ^ n := by rw [qiq h, Nat.or_assoc]
theorem qfi {u t n : Nat} (h : ¬ bt t n = 1) : u ||| t % 2 ^ (n + 1) = u ||| t % 2 ^ n := by rw [qgb h]
/-- What is added to more, adds less. -/
theorem rs_sums {M : Nat → Nat → Nat} (hM : El2 M) {R s u t a d : Nat} (hus : ∀ i, i < R → bt u i = 1 → bt s i = 1) (ha : RS M R s a) (hd : RS M R u d) :
  ∀ n, n ≤ R → ∀ c b, RS M R (s ||| t % 2 ^ n) c → RS M R (u ||| t % 2 ^ n) b → c + d ≤ a + b := by
 intro n
 induction n with
 | zero =>
  intro _ c b hc hb
  rw [Nat.pow_zero, Nat.mod_one, Nat.or_zero] at hc hb
  have := hc.one hM ha
  have := hb.one hM hd
  omega
 | succ n ih =>
  intro hn c b hc hb
  by_cases h : bt t n = 1
  ·rw [qgx h] at hc hb
   obtain ⟨c', hc'⟩ := qg9 hM R (s ||| t % 2 ^ n)
   obtain ⟨b', hb'⟩ := qg9 hM R (u ||| t % 2 ^ n)
   have h1 := ih (by omega) c' b' hc' hb'
   rcases hc'.add hM (by omega) hc with ⟨h2, h3⟩ | ⟨h2, h3⟩
   ·rcases hb'.add hM (by omega) hb with ⟨_, h5⟩ | ⟨_, h5⟩ <;> omega
   ·rcases hb'.add hM (by omega) hb with ⟨h4, h5⟩ | ⟨_, h5⟩
    ·refine absurd (h4.sub hM (fun i hi hbi => ?_)) h2
     rcases (qbj _ _ _).1 hbi with h6 | h6
     ·exact (qbj _ _ _).2 (.inl (hus i hi h6))
     ·exact (qbj _ _ _).2 (.inr h6)
    ·omega
  ·rw [qfi h] at hc hb
   exact ih (by omega) c b hc hb
theorem qcm {t R i : Nat} (hi : i < R) : bt (t % 2 ^ R) i = 1 ↔ bt t i = 1 := by rw [qm9]; exact ⟨fun h => h.2, fun h => ⟨hi, h⟩⟩
/-- With the rows of w more, which s has not, the rank rises at most by their number. -/
theorem rs_up {M : Nat → Nat → Nat} (hM : El2 M) {R s t w a : Nat} (hw : ∀ i, i < R → (bt w i = 1 ↔ bt t i = 1 ∧ ¬ bt s i = 1)) (ha : RS M R s a) :
  ∀ n, n ≤ R → ∀ c, RS M R (s ||| t % 2 ^ n) c → c ≤ a + cn w n := by
 intro n
 induction n with
 | zero =>
  intro _ c hc
  rw [Nat.pow_zero, Nat.mod_one, Nat.or_zero] at hc
  have := hc.one hM ha
  omega
 | succ n ih =>
  intro hn c hc
  have h7 := qai n w
  by_cases h : bt t n = 1
  ·rw [qgx h] at hc
   obtain ⟨c', hc'⟩ := qg9 hM R (s ||| t % 2 ^ n)
   have h1 := ih (by omega) c' hc'
   by_cases hs : bt s n = 1
   ·have h8 := hc'.same hM (by omega) (qcj hM (by omega) ((qbj _ _ _).2 (.inl hs)))
    have := hc.one hM h8
    omega
   ·have h8 := (hw n (by omega)).2 ⟨h, hs⟩
    rcases hc'.add hM (by omega) hc with ⟨_, h3⟩ | ⟨_, h3⟩ <;> omega
  ·rw [qfi h] at hc
   have := ih (by omega) c hc
   omega
theorem rs_union {M : Nat → Nat → Nat} (hM : El2 M) {R s t w a c : Nat} (hw : ∀ i, i < R → (bt w i = 1 ↔ bt t i = 1 ∧ ¬ bt s i = 1)) (ha : RS M R s a) (hc : RS M R (s ||| t) c) : c ≤ a + cn w R :=
 rs_up hM hw ha R (Nat.le_refl _) c (hc.congr (fun i hi => by rw [qbj, qbj, qcm hi]))
theorem qir {s t u : Nat} : ∀ n, (∀ i, i < n → (bt s i = 1 ↔ bt t i = 1 ∨ bt u i = 1)) → (∀ i, i < n → ¬ (bt t i = 1 ∧ bt u i = 1)) → cn s n = cn t n + cn u n := by
 intro n
 induction n with
 | zero => intro _ _; rfl
 | succ n ih =>
  intro h1 h2
  have h3 := ih (fun i hi => h1 i (by omega)) (fun i hi => h2 i (by omega))
  have h4 := h1 n (by omega)
  have h5 := h2 n (by omega)
  have := qcn s n
  have := qcn t n
  have := qcn u n
  rw [qai, qai, qai]
  omega
theorem qhj {s t : Nat} : ∀ n, (∀ i, i < n → (bt s i = 1 ↔ bt t i = 1)) → cn s n = cn t n := by
 intro n
 induction n with
 | zero => intro _; rfl
 | succ n ih =>
  intro h
  have h3 := ih (fun i hi => h i (by omega))
  have h4 := h n (by omega)
  have := qcn s n
  have := qcn t n
  rw [qai, qai]
  omega
theorem qis {s i R : Nat} (hi : i < R) (h : ¬ bt s i = 1) : cn (s ||| 2 ^ i) R = cn s R + 1 := by
 rw [qir (t := s) (u := 2 ^ i) R (fun j _ => qbj _ _ _) (fun j _ hh => by rw [qbp] at hh; rw [hh.2] at hh; exact h hh.1)]
 have e : cn (2 ^ i) R = 1 := by
  have h1 : ∀ n, n ≤ i → cn (2 ^ i) n = 0 := by
   intro n
   induction n with
   | zero => intro _; rfl
   | succ n ih => intro hn; rw [qai, ih (by omega), qao (by rw [qbp]; omega)]
  have h2 : ∀ d, cn (2 ^ i) (i + 1 + d) = 1 := by
   intro d
   induction d with
   | zero => rw [Nat.add_zero, qai, h1 i (Nat.le_refl _), (qbp i i).2 rfl]
   | succ d ih => rw [← Nat.add_assoc, qai, ih, qao (by rw [qbp]; omega)]
  have h3 := h2 (R - (i + 1))
  rwa [show i + 1 + (R - (i + 1)) = R by omega] at h3
 rw [e]
/-- A set of independent rows. -/
def FreeS (M : Nat → Nat → Nat) (R s : Nat) : Prop := RS M R s (cn s R)
/-- What an independent set holds, is independent. -/
theorem FreeS.sub {M : Nat → Nat → Nat} (hM : El2 M) {R s u w : Nat} (h : FreeS M R s) (hus : ∀ i, i < R → bt u i = 1 → bt s i = 1) (hw : ∀ i, i < R → (bt w i = 1 ↔ bt s i = 1 ∧ ¬ bt u i = 1)) : FreeS M R u := by
 obtain ⟨a, ha⟩ := qg9 hM R u
 have h1 : RS M R (u ||| s) (cn s R) := RS.congr h (fun i hi => by rw [qbj]; exact ⟨fun h => .inr h, fun h => h.elim (hus i hi) id⟩)
 have h2 := rs_union hM hw ha h1
 have h3 := qir (s := s) (t := u) (u := w) R (fun i hi => by
  rw [hw i hi]
  constructor
  ·intro h
   by_cases hu : bt u i = 1
   ·exact .inl hu
   ·exact .inr ⟨h, hu⟩
  ·rintro (h | h)
   ·exact hus i hi h
   ·exact h.1) (fun i hi hh => ((hw i hi).1 hh.2).2 hh.1)
 have h4 := ha.le hM
 have h5 : a = cn u R := by omega
 unfold FreeS
 rw [← h5]
 exact ha
/-- A row of an independent set is no combination of the others. -/
theorem FreeS.row {M : Nat → Nat → Nat} (hM : El2 M) {R s t i : Nat} (h : FreeS M R s) (hi : i < R) (hb : bt s i = 1) (ht : ∀ j, j < R → (bt t j = 1 ↔ bt s j = 1 ∧ j ≠ i)) : ¬ SS M R t (M i) := by
 intro hs
 obtain ⟨k, hk⟩ := qg9 hM R t
 have h0 : ¬ bt t i = 1 := fun h => ((ht i hi).1 h).2 rfl
 have h1 := hk.same hM hi hs
 have h2 : ∀ j, j < R → (bt (t ||| 2 ^ i) j = 1 ↔ bt s j = 1) := fun j hj => by
  rw [qbj, qbp, ht j hj]
  constructor
  ·rintro (h | h)
   ·exact h.1
   ·rw [h]; exact hb
  ·intro h
   by_cases e : j = i
   ·exact .inr e
   ·exact .inl ⟨h, e⟩
 have h3 := RS.one hM (h1.congr h2) h
 have h4 := hk.le hM
 have h5 := qis hi h0
 have h6 := qhj R h2
 omega
theorem FreeS.add {M : Nat → Nat → Nat} (hM : El2 M) {R s i : Nat} (h : FreeS M R s) (hi : i < R) (hs : ¬ SS M R s (M i)) : FreeS M R (s ||| 2 ^ i) := by
 have h0 : ¬ bt s i = 1 := fun hb => hs (qcj hM hi hb)
 unfold FreeS
 rw [qis hi h0]
 exact RS.more hM hi h hs
/-- p is the span of s. -/
def SpS (M : Nat → Nat → Nat) (R s p : Nat) : Prop := p < 2 ^ R ∧ ∀ i, i < R → (bt p i = 1 ↔ SS M R s (M i))
theorem SpS.one {M : Nat → Nat → Nat} {R s p q : Nat} (h : SpS M R s p) (h2 : SpS M R s q) : p = q := by
 apply qfh
 intro i
 by_cases hi : i < R
 ·rw [h.2 i hi, h2.2 i hi]
 ·rw [qci h.1 (by omega), qci h2.1 (by omega)]
theorem SpS.has {M : Nat → Nat → Nat} (hM : El2 M) {R s p : Nat} (h : SpS M R s p) : ∀ i, i < R → bt s i = 1 → bt p i = 1 := fun i hi hb => (h.2 i hi).2 (qcj hM hi hb)
theorem SpS.span {M : Nat → Nat → Nat} (hM : El2 M) {R s p : Nat} (h : SpS M R s p) : SpEq (mk M p) R (mk M s) R := ⟨qhi (fun i hi hb => (h.2 i hi).1 hb), qdn hM (h.has hM)⟩
theorem SpS.rank {M : Nat → Nat → Nat} (hM : El2 M) {R s p k : Nat} (h : SpS M R s p) (hk : RS M R s k) : RS M R p k := Rk.span hk (h.span hM).symm
theorem sps_same {M : Nat → Nat → Nat} {R s t p : Nat} (h : SpS M R s p) (e : SpEq (mk M s) R (mk M t) R) : SpS M R t p := ⟨h.1, fun i hi => (h.2 i hi).trans ⟨fun h => Spn.trans h e.1, fun h => Spn.trans h e.2⟩⟩
theorem SpS.again {M : Nat → Nat → Nat} (hM : El2 M) {R s p : Nat} (h : SpS M R s p) : SpS M R p p := sps_same h (h.span hM).symm
/-- b is the basis of s: the rows that are no combination of those ahead. -/
def BaS (M : Nat → Nat → Nat) (R s b : Nat) : Prop := b < 2 ^ R ∧ ∀ i, i < R → (bt b i = 1 ↔ bt s i = 1 ∧ ¬ SS M R (s % 2 ^ i) (M i))
theorem BaS.one {M : Nat → Nat → Nat} {R s p q : Nat} (h : BaS M R s p) (h2 : BaS M R s q) : p = q := by
 apply qfh
 intro i
 by_cases hi : i < R
 ·rw [h.2 i hi, h2.2 i hi]
 ·rw [qci h.1 (by omega), qci h2.1 (by omega)]
theorem spn_ins {M : Nat → Nat → Nat} (hM : El2 M) {R u v i : Nat} (hi : i < R) (h : SpEq (mk M u) R (mk M v) R) : SpEq (mk M (u ||| 2 ^ i)) R (mk M (v ||| 2 ^ i)) R := by
 have key : ∀ a b, Le (mk M a) R (mk M b) R → Le (mk M (a ||| 2 ^ i)) R (mk M (b ||| 2 ^ i)) R := fun a b hab => qhi (fun j hj hb => by
  rcases (qbj _ _ _).1 hb with h1 | h1
  ·exact Spn.trans (Spn.trans (qcj hM hj h1) hab) (qdn hM (fun t _ ht => (qbj _ _ _).2 (.inl ht)))
  ·rw [qbp] at h1
   subst h1
   exact qcj hM hj ((qbj _ _ _).2 (.inr ((qbp j j).2 rfl))))
 exact ⟨key u v h.1, key v u h.2⟩
theorem spn_idle {M : Nat → Nat → Nat} (hM : El2 M) {R u i : Nat} (_hi : i < R) (h : SS M R u (M i)) : SpEq (mk M (u ||| 2 ^ i)) R (mk M u) R :=
 ⟨qhi (fun j hj hb => by
  rcases (qbj _ _ _).1 hb with h1 | h1
  ·exact qcj hM hj h1
  ·rw [qbp] at h1; rw [h1]; exact h), qdn hM (fun t _ ht => (qbj _ _ _).2 (.inl ht))⟩
theorem bas_low {M : Nat → Nat → Nat} (hM : El2 M) {R s b : Nat} : ∀ n, n ≤ R → (∀ i, i < n → (bt b i = 1 ↔ bt s i = 1 ∧ ¬ SS M R (s % 2 ^ i) (M i))) → RS M R (b % 2 ^ n) (cn b n) ∧ SpEq (mk M (b % 2 ^ n)) R (mk M (s % 2 ^ n)) R := by
 intro n
 induction n with
 | zero =>
  intro _ _
  rw [Nat.pow_zero, Nat.mod_one, Nat.mod_one]
  exact ⟨rs_none hM (fun i _ => by rw [qci (n := 0) (by decide) (Nat.zero_le _)]; decide), SpEq.refl (qjt hM 0) R⟩
 | succ n ih =>
  intro hn h
  obtain ⟨h1, h2⟩ := ih (by omega) (fun i hi => h i (by omega))
  have hb := h n (by omega)
  rw [qai]
  by_cases hs : bt s n = 1
  ·by_cases hss : SS M R (s % 2 ^ n) (M n)
   ·have h0 : ¬ bt b n = 1 := fun hx => (hb.1 hx).2 hss
    rw [qgb h0, qao h0, Nat.add_zero, qiq hs]
    exact ⟨h1, h2.trans (spn_idle hM (by omega) hss).symm⟩
   ·have h0 : bt b n = 1 := hb.2 ⟨hs, hss⟩
    rw [qiq h0, h0, qiq hs]
    exact ⟨h1.more hM (by omega) (fun hx => hss (Spn.trans hx h2.1)), spn_ins hM (by omega) h2⟩
  ·have h0 : ¬ bt b n = 1 := fun hx => hs (hb.1 hx).1
   rw [qgb h0, qao h0, Nat.add_zero, qgb hs]
   exact ⟨h1, h2⟩
theorem BaS.low {M : Nat → Nat → Nat} (hM : El2 M) {R s b : Nat} (h : BaS M R s b) (n : Nat) (hn : n ≤ R) : RS M R (b % 2 ^ n) (cn b n) ∧ SpEq (mk M (b % 2 ^ n)) R (mk M (s % 2 ^ n)) R := bas_low hM n hn (fun i hi => h.2 i (by omega))
theorem mk_low {M : Nat → Nat → Nat} (hM : El2 M) (R s : Nat) : SpEq (mk M (s % 2 ^ R)) R (mk M s) R := ⟨qdn hM (fun _ hi h => (qcm hi).1 h), qdn hM (fun _ hi h => (qcm hi).2 h)⟩
theorem BaS.free {M : Nat → Nat → Nat} (hM : El2 M) {R s b : Nat} (h : BaS M R s b) : FreeS M R b ∧ SpEq (mk M b) R (mk M s) R := by
 obtain ⟨h1, h2⟩ := h.low hM R (Nat.le_refl _)
 exact ⟨h1.congr (fun i hi => qcm hi), ((mk_low hM R b).symm.trans h2).trans (mk_low hM R s)⟩
/-- The factor of a row i of an independent set in a combination is not 0 just if the combination is none of the others'. -/
theorem circ_iff {M : Nat → Nat → Nat} (hM : El2 M) {R s t i : Nat} {y a : Nat → Nat} (h : FreeS M R s) (hi : i < R) (hb : bt s i = 1) (ht : ∀ j, j < R → (bt t j = 1 ↔ bt s j = 1 ∧ j ≠ i)) (ha : El a) (hy : ∀ j, y j = lc a (mk M s) R j) :
  a i ≠ 0 ↔ ¬ SS M R t y := by
 have hrest : Spn (mk M t) R (lc (fun j => if j = i then 0 else a j) (mk M s) R) := by
  refine qeb (fun j => by split; decide; exact ha j) (fun j hj hne => ?_)
  by_cases e : j = i
  ·rw [if_pos e] at hne; exact absurd rfl hne
  ·by_cases hbj : bt s j = 1
   ·rw [qgw hbj]
    exact qcj hM hj ((ht j hj).2 ⟨hbj, e⟩)
   ·rw [qma hbj]
    exact qd1 _ _
 have hsplit : ∀ j, y j = fm (a i) (M i j) ^^^ lc (fun j => if j = i then 0 else a j) (mk M s) R j := by
  intro j
  have h1 : lc a (mk M s) R j = lc (fun t => (if t = i then a i else 0) ^^^ (if t = i then 0 else a t)) (mk M s) R j := qb2 (fun t _ => by
   by_cases e : t = i
   ·rw [if_pos e, if_pos e, Nat.xor_zero, e]
   ·rw [if_neg e, if_neg e, Nat.zero_xor]) (fun _ _ => rfl)
  rw [hy j, h1, qf6 (fun t => by show (if t = i then a i else 0) < 256; split; exact ha i; decide) (fun t => by show (if t = i then 0 else a t) < 256; split; decide; exact ha t)]
  congr 1
  unfold lc
  rw [qbe hi (fun k _ hk => by show fm (if k = i then a i else 0) _ = 0; rw [if_neg hk, qaa])]
  show fm (if i = i then a i else 0) _ = _
  rw [if_pos rfl, qgw hb]
 constructor
 ·intro hne hs
  have h1 : Spn (mk M t) R (fun j => y j ^^^ lc (fun j => if j = i then 0 else a j) (mk M s) R j) := qcs hs hrest
  have h2 := qb4 (qae (a i)) h1
  refine FreeS.row hM h hi hb ht (h2.congr (fun j => ?_))
  rw [hsplit j, Nat.xor_assoc, Nat.xor_self, Nat.xor_zero, ← qam _ _ _ (qae _) (ha i), qac _ _ (qae _) (ha i), qau _ (ha i) hne, qaz _ (hM i j)]
 ·intro hs e
  refine hs (hrest.congr (fun j => ?_))
  rw [hsplit j, e, qaa, Nat.zero_xor]
/-- A set without one number. -/
def rem (s i : Nat) : Nat := s &&& (2 ^ 64 - 1 - 2 ^ i)
theorem qdc {s i : Nat} (hs : s < 2 ^ 64) (hi : i < 64) (j : Nat) : bt (rem s i) j = 1 ↔ bt s j = 1 ∧ j ≠ i := by
 have h1 : 2 ^ i < 2 ^ 64 := Nat.pow_lt_pow_right (by decide) hi
 have h2 := bt_diff hs h1 j
 rw [qbp] at h2
 exact h2
/-- A set that is made number by number, up to i: it has those that keep P. -/
def Bld (P : Nat → Prop) (i z : Nat) : Prop := z < 2 ^ i ∧ ∀ j, j < i → (bt z j = 1 ↔ P j)
theorem Bld.start (P : Nat → Prop) : Bld P 0 0 := ⟨by decide, fun j hj => by omega⟩
theorem Bld.yes {P : Nat → Prop} {i z : Nat} (h : Bld P i z) (hp : P i) : Bld P (i + 1) (z ||| 2 ^ i) := by
 refine ⟨Nat.or_lt_two_pow (Nat.lt_of_lt_of_le h.1 (Nat.pow_le_pow_right (by decide) (by omega))) (Nat.pow_lt_pow_right (by decide) (by omega)), fun j hj => ?_⟩
 rw [qbj, qbp]
 by_cases e : j = i
 ·rw [e]; exact ⟨fun _ => hp, fun _ => .inr rfl⟩
 ·rw [h.2 j (by omega)]; exact ⟨fun h => h.elim id (fun h => absurd h e), .inl⟩
theorem Bld.no {P : Nat → Prop} {i z : Nat} (h : Bld P i z) (hp : ¬ P i) : Bld P (i + 1) z := by
 refine ⟨Nat.lt_of_lt_of_le h.1 (Nat.pow_le_pow_right (by decide) (by omega)), fun j hj => ?_⟩
 by_cases e : j = i
 ·rw [e, qci h.1 (Nat.le_refl _)]; exact ⟨fun h => by omega, fun h => absurd h hp⟩
 ·exact h.2 j (by omega)
open Go.RowKit
theorem qit {w : World} {b : Option Addr} {m : Nat} {q : Nat → Int} (h : Jl w b .i64 m q) : Il w b m q := h
theorem qgc {F q : Nat → Nat} {k c r i : Nat} (hq : ∀ i, i < k → q i < r) (hi : i < k) : m2 (pkf F q c) k c i = m2 F r c (q i) := funext fun j => by
 by_cases hj : j < c
 ·rw [qb1 _ hi hj, qb1 _ (hq i hi) hj, qf9 F q c i j hj]
 ·rw [qaf _ (by omega), qaf _ (by omega)]
theorem qmc {F : Nat → Nat} {r c n s t : Nat} (hF : ∀ i, i < n → F i < 256) (R : Rt r c n) (h : Rk (m2 (pkf F (lf s r) c) (cn s r) c) (cn s r) t) : RS (m2 F r c) r s t :=
 (qmb (qax hF R)).1 (h.at (fun i j hi => by rw [qgc (fun t ht => (qal ht).1) hi]))
theorem qju (w : World) (r c : Int) (n k s : Nat) (a : Option Addr) (h : ¬ RightP r c n) :
  Calls Tryz.prog 83 #[mv r c a n k, .int .u64 (s : Int)] w fun e w' => e = .returned (.int .i64 3) ∧ Below w.heap.size w w' := by
 have HP : Hid (¬ RightP r c n) := h
 clear h
 go_enter Tryz.func83, Tryz.ntmps83
 go_wp2_with (go_at_call 68; refine (qi9 _ _ _ _ _ _ HP.out).mono ?_; rintro e w1 ⟨rfl, hb⟩; have HB1 : Hid (Below w.heap.size w w1) := qa0 (qa1 _ _) hb; clear hb)
 go_ret
 exact ⟨rfl, HB1.out⟩
theorem rbad_arg (w : World) (r c n k s : Nat) (a : Option Addr) (R : Rt r c n) (hs6 : s < 18446744073709551616) (h : ¬ s < 2 ^ r) :
  Calls Tryz.prog 83 #[mv r c a n k, .int .u64 (s : Int)] w fun e w' => e = .returned (.int .i64 2) ∧ Below w.heap.size w w' := by
 have HP : Hid (RightP r c n) := R.p
 have hr := R.r64
 obtain ⟨A, HA⟩ : ∃ A : Nat, Hid ((2 ^ r - 1 : Nat) = A) := ⟨_, rfl⟩
 obtain ⟨z, hz1, hz2⟩ := qin hs6 hr HA.out
 have hz3 : ((z : Int) == 0) = false := by
  simp only [beq_eq_false_iff_ne, ne_eq]
  intro e
  exact h (hz2.1 (by omega))
 clear R hz2 h hs6
 go_enter Tryz.func83, Tryz.ntmps83
 go_wp2_with (first
  | (go_at_call 68; refine (qbb _ _ _ _ _ _ HP.out).mono ?_; rintro e w1 ⟨rfl, hb⟩; have HV1 := (Vr.new w (.int .i64 (r : Int)) (.int .i64 (c : Int)) (.slice a n k)).later hb; have v0 := HV1.c0; have HB1 : Hid (Below w.heap.size w w1) := qa0 (qa1 _ _) hb; clear hb HV1)
  | (go_at_call 67; refine (qig r _ hr).mono ?_; rintro e w' ⟨rfl, rfl⟩; rw [HA.out]))
 go_ret
 exact ⟨rfl, HB1.out⟩
theorem rbad_ok (w : World) (r c n k s : Nat) (a : Option Addr) (R : Rt r c n) (h : s < 2 ^ r) :
  Calls Tryz.prog 83 #[mv r c a n k, .int .u64 (s : Int)] w fun e w' => e = .returned (.int .i64 0) ∧ Below w.heap.size w w' := by
 have HP : Hid (RightP r c n) := R.p
 have hr := R.r64
 have hs6 := qc7 hr h
 obtain ⟨A, HA⟩ : ∃ A : Nat, Hid ((2 ^ r - 1 : Nat) = A) := ⟨_, rfl⟩
 obtain ⟨z, hz1, hz2⟩ := qin hs6 hr HA.out
 have han : bits .andNot .u64 (s : Int) (A : Int) = 0 := by rw [hz1, hz2.2 h]; rfl
 clear R hz1 hz2 h hs6
 go_enter Tryz.func83, Tryz.ntmps83
 go_wp2_with (first
  | (go_at_call 68; refine (qbb _ _ _ _ _ _ HP.out).mono ?_; rintro e w1 ⟨rfl, hb⟩; have HV1 := (Vr.new w (.int .i64 (r : Int)) (.int .i64 (c : Int)) (.slice a n k)).later hb; have v0 := HV1.c0; have HB1 : Hid (Below w.heap.size w w1) := qa0 (qa1 _ _) hb; clear hb HV1)
  | (go_at_call 67; refine (qig r _ hr).mono ?_; rintro e w' ⟨rfl, rfl⟩; rw [HA.out]))
 go_ret
 exact ⟨rfl, HB1.out⟩
theorem qet (w : World) (r c n k s : Nat) (a : Option Addr) (F : Nat → Nat) (ha : Sl w a n F) (R : Rt r c n) (hs : s < 2 ^ r) :
  Calls Tryz.prog 54 #[mv r c a n k, .int .u64 (s : Int)] w fun e w' => ∃ t : Nat, e = .returned (.int .i64 (t : Int)) ∧ RS (m2 F r c) r s t ∧ Below w.heap.size w w' := by
 have hr := R.r64
 have hs6 := qc7 hr hs
 have HA : Hid (Sl w a n F) := ha
 have HRt : Hid (Rt r c n) := R
 have HS : Hid (s < 2 ^ r) := hs
 obtain ⟨K, f, hK, HFr, HConv, HL⟩ : ∃ (K : Nat) (f : Nat → Nat), K ≤ r ∧ Hid (∀ i, i < K → f i < r) ∧ Hid (∀ t, Rk (m2 (pkf F f c) K c) K t → RS (m2 F r c) r s t) ∧ Hid (∀ w' : World, Calls Tryz.prog 21 #[.int .u64 (s : Int)] w' fun e w'' => ∃ x d, e = .returned (.slice x K d) ∧ Il w'' x K (fun i => (f i : Int)) ∧ Below w'.heap.size w' w'') := by
  refine ⟨cn s r, lf s r, qb0 r s, fun i hi => (qal hi).1, fun t h => qmc ha.1 R h, fun w' => (qih s w' hs6).mono (fun e w'' h => ?_)⟩
  obtain ⟨v, he, ho, hb⟩ := h
  rw [qfe hr hs] at ho
  have ho2 := ho.congr (fun t _ => qm8 hr hs t)
  obtain ⟨x, d, rfl, _⟩ := ho2.form
  exact ⟨x, d, he, qit ho2.jl, hb⟩
 obtain ⟨N, HN⟩ : ∃ N, Hid (K * c = N) := ⟨_, rfl⟩
 have HRk : Hid (Rt K c N) := ⟨by omega, R.c64, HN.out⟩
 have HPF : Hid (∀ i, i < N → pkf F f c i < 256) := fun i hi => qfa ha.1 R HFr.out i (by rw [HN.out]; exact hi)
 clear ha R hs hs6
 go_enter Tryz.func54, Tryz.ntmps54
 go_wp2
 -- REGION
 refine wp_region_held (S := fun w' => w'.cell? ⟨w.heap.size, 0, none⟩ = some (.int .i64 (r : Int)) ∧ w'.cell? ⟨w.heap.size, 1, none⟩ = some (.int .i64 (c : Int)) ∧ w'.cell? ⟨w.heap.size, 2, none⟩ = some (.slice a n k)) (by kernel_rfl) ?_
 change wpAnyH _ _ _ _ _ _ _ _ (World.drew _)
 obtain ⟨W0, HW0⟩ : ∃ W0, Hid ((w.alloc (.cells #[.int .i64 (r : Int), .int .i64 (c : Int), .slice a n k] 24)).drew = W0) := ⟨_, rfl⟩
 rw [HW0.out]
 have HX0 : Hid (Vr W0 w.heap.size (.int .i64 (r : Int)) (.int .i64 (c : Int)) (.slice a n k)) := by rw [← HW0.out]; exact (Vr.new w _ _ _).later (Below.refl _ _).drew
 have HB0 : Hid (Below w.heap.size w W0) := by rw [← HW0.out]; exact qa0 (qa1 _ _) (Below.refl _ _).drew
 refine wtkq 0 ?vq1 rfl (by kernel_rfl) (fun _ _ _ h => h) (by rfl) ?yq1 ⟨HX0.out.c0, HX0.out.c1, HX0.out.c2⟩ ?zq1
 case yq1 => (intro w hSw; (try dsimp only at hSw); go_simp; try with_reducible rfl)
 try simp only [mz1, mz3, Act.put, mz4, mz5, mz6]
 refine wtkq 1 ?vq2 rfl (by kernel_rfl) (fun _ _ _ h => h) (by rfl) ?yq2 ⟨HX0.out.c0, HX0.out.c1, HX0.out.c2⟩ ?zq2
 case yq2 => (intro w hSw; (try dsimp only at hSw); go_simp; try with_reducible rfl)
 try simp only [mz1, mz2, mz3, Act.put, mz4, mz5, mz6]
 refine wpAnyH_ready (rs := [2, 7]) (by kernel_rfl) (by simp) ?_
 refine AllReadyH.cons rfl (fun KK hKK => ?_) (AllReadyH.cons rfl (fun KK hKK => ?_) AllReadyH.nil)
 ·go_simp
  refine (HL.out _).mono ?_
  rintro e w1 ⟨xs1, d1, rfl, hj1, hb1⟩
  have HI1 : Hid (Il w1 xs1 K (fun i => (f i : Int))) := hj1
  have HB1 : Hid (Below w.heap.size w w1) := qa0 HB0.out hb1
  have HV1 : Hid (Vr w1 w.heap.size (.int .i64 (r : Int)) (.int .i64 (c : Int)) (.slice a n k)) := HX0.out.later hb1
  clear hj1 hb1
  refine hKK.out _ _ ⟨HV1.out.c0, HV1.out.c1, HV1.out.c2⟩ (fun _ => ?_)
  clear hKK KK
  try simp only [mz1, mz2, mz3, Act.put, mz4, mz5, mz6]
  refine wpAnyH_ready (rs := [3, 7]) (by kernel_rfl) (by simp) ?_
  refine AllReadyH.cons rfl (fun KK hKK => ?_) (AllReadyH.cons rfl (fun KK hKK => ?_) AllReadyH.nil)
  ·go_simp
   refine (qdx _ r c n k K d1 N a xs1 F f (HA.out.later HB1.out) HRt.out HI1.out HFr.out (by omega) HN).mono ?_
   rintro e w2 ⟨s2, d2, rfl, ho2, hb2⟩
   have HB2 : Hid (Below w.heap.size w w2) := qa0 HB1.out hb2
   have HV2 : Hid (Vr w2 w.heap.size (.int .i64 (r : Int)) (.int .i64 (c : Int)) (.slice a n k)) := HV1.out.later hb2
   have HO2 : Hid (w2.ownsRow w1.heap.size 5 1 (.slice s2 N d2) N (row N (pkf F f c)).toList) := ho2
   clear ho2 hb2
   refine hKK.out _ _ ⟨HV2.out.c0, HV2.out.c1, HV2.out.c2⟩ (fun _ => ?_)
   clear hKK KK
   try simp only [mz1, mz2, mz3, Act.put, mz4, mz5, mz6]
   refine wtkq 4 ?vq3 rfl (by kernel_rfl) (fun _ _ _ h => h) (by rfl) ?yq3 ⟨HV2.out.c0, HV2.out.c1, HV2.out.c2⟩ ?zq3
   case yq3 => (intro w hSw; (try dsimp only at hSw); go_simp; try with_reducible rfl)
   try simp only [mz1, mz2, mz3, Act.put, mz4, mz5, mz6]
   refine wtkq 5 ?vq4 rfl (by kernel_rfl) (fun _ _ _ h => h) (by rfl) ?yq4 ⟨HV2.out.c0, HV2.out.c1, HV2.out.c2⟩ ?zq4
   case yq4 => (intro w hSw; (try dsimp only at hSw); go_simp; try with_reducible rfl)
   try simp only [mz1, mz2, mz3, Act.put, mz4, mz5, mz6]
   refine wtkq 6 ?vq5 rfl (by kernel_rfl) (fun _ _ _ h => h) (by rfl) ?yq5 ⟨HV2.out.c0, HV2.out.c1, HV2.out.c2⟩ ?zq5
   case yq5 => (intro w hSw; (try dsimp only at hSw); go_simp; try with_reducible rfl)
   try simp only [mz1, mz2, mz3, Act.put, mz4, mz5, mz6]
   refine wpAnyH_ready (rs := [7]) (by kernel_rfl) (by simp) ?_
   refine AllReadyH.cons rfl (fun KK hKK => ?_) AllReadyH.nil
   go_simp
   have HZa2 : Hid (Vr (w2.alloc (.cells #[.int .i64 0, .int .i64 0, .slice none 0 0] 24)) w2.heap.size (.int .i64 0) (.int .i64 0) (.slice none 0 0)) := Vr.new _ _ _ _
   have HBa2 : Hid (Below w.heap.size w (w2.alloc (.cells #[.int .i64 0, .int .i64 0, .slice none 0 0] 24))) := qa0 HB2.out (qa1 _ _)
   have HVa2 : Hid (Vr (w2.alloc (.cells #[.int .i64 0, .int .i64 0, .slice none 0 0] 24)) w.heap.size (.int .i64 (r : Int)) (.int .i64 (c : Int)) (.slice a n k)) := HV2.out.later (qa1 _ _)
   have HOa2 : Hid ((w2.alloc (.cells #[.int .i64 0, .int .i64 0, .slice none 0 0] 24)).ownsRow w1.heap.size 5 1 (.slice s2 N d2) N (row N (pkf F f c)).toList) := World.ownsRow.alloc HO2.out _
   refine hKK.out _ _ ⟨HVa2.out.c0, HVa2.out.c1, HVa2.out.c2⟩ (fun _ => ?_)
   clear hKK KK
   try simp only [mz1, mz2, mz3, Act.put, mz4, mz5, mz6]
   refine wpAnyH_ready (rs := [8]) (by kernel_rfl) (by simp) ?_
   refine AllReadyH.cons rfl (fun KK hKK => ?_) AllReadyH.nil
   refine qaq rfl _ _ rfl (w2.heap.size) _ _ _ (.int .i64 (K : Int)) (.int .i64 (c : Int)) (.slice s2 N d2) rfl rfl HZa2.out rfl rfl rfl ?_
   intro w4 HV4 HG4
   have hne4 : (Value.slice s2 N d2).ownBlock ≠ some (w2.heap.size) := own_lt HO2.out
   have HO4 : Hid (w4.ownsRow w1.heap.size 5 1 (.slice s2 N d2) N (row N (pkf F f c)).toList) := qfw HOa2.out HG4.out hne4
   have HW4 : Hid (Vr w4 w.heap.size (.int .i64 (r : Int)) (.int .i64 (c : Int)) (.slice a n k)) := HVa2.out.kept HG4.out (by have := HV2.out.lt; omega)
   refine hKK.out _ _ ⟨HW4.out.c0, HW4.out.c1, HW4.out.c2⟩ (fun _ => ?_)
   clear hKK KK
   try simp only [mz1, mz2, mz3, Act.put]
   refine wtkq 9 ?vq6 rfl (by kernel_rfl) (fun _ _ _ h => h) (by rfl) ?yq6 ⟨HW4.out.c0, HW4.out.c1, HW4.out.c2⟩ ?zq6
   case yq6 => (intro w hSw; (try dsimp only at hSw); go_simp; try with_reducible rfl)
   try simp only [mz1, mz2, mz3, Act.put, mz4, mz5, mz6]
   refine wpAnyH_done (by kernel_rfl) ?_ _
   have HP4 : Hid (Sl w4 s2 N (pkf F f c)) := qdh HO4.out HPF.out
   have HN4 : Hid (s2 = none → N = 0 ∧ d2 = 0) := qcl HO4.out
   have x0 := HV4.out.c0
   have x1 := HV4.out.c1
   have x2 := HV4.out.c2
   have HB4 : Hid (Below w.heap.size w w4) := HBa2.out.trans (jbelow HG4.out HBa2.out.size (fun g e => by cases e; have := HV2.out.lt; omega))
   go_wp2_with (go_at_call 84; refine (qg0 _ K c N d2 s2 (pkf F f c) HP4.out HN4.out HRk.out).mono ?_; rintro e w5 ⟨t, rfl, hk, hb5⟩; have HT : Hid (RS (m2 F r c) r s t) := HConv.out t hk; have HB5 : Hid (Below w.heap.size w w5) := qa0 HB4.out hb5; clear hk hb5)
   go_ret
   exact ⟨t, rfl, HT.out, HB5.out⟩
  ·go_simp
   have HZa1 : Hid (Vr (w1.alloc (.cells #[.int .i64 0, .int .i64 0, .slice none 0 0] 24)) w1.heap.size (.int .i64 0) (.int .i64 0) (.slice none 0 0)) := Vr.new _ _ _ _
   have HBa1 : Hid (Below w.heap.size w (w1.alloc (.cells #[.int .i64 0, .int .i64 0, .slice none 0 0] 24))) := qa0 HB1.out (qa1 _ _)
   have HVa1 : Hid (Vr (w1.alloc (.cells #[.int .i64 0, .int .i64 0, .slice none 0 0] 24)) w.heap.size (.int .i64 (r : Int)) (.int .i64 (c : Int)) (.slice a n k)) := HV1.out.later (qa1 _ _)
   have HIa1 : Hid (Il (w1.alloc (.cells #[.int .i64 0, .int .i64 0, .slice none 0 0] 24)) xs1 K (fun i => (f i : Int))) := HI1.out.later (qa1 _ _)
   refine hKK.out _ _ ⟨HVa1.out.c0, HVa1.out.c1, HVa1.out.c2⟩ (fun _ => ?_)
   clear hKK KK
   try simp only [mz1, mz2, mz3, Act.put, mz4, mz5, mz6]
   refine wpAnyH_ready (rs := [3]) (by kernel_rfl) (by simp) ?_
   refine AllReadyH.cons rfl (fun KK hKK => ?_) AllReadyH.nil
   go_simp
   refine (qdx _ r c n k K d1 N a xs1 F f (HA.out.later HBa1.out) HRt.out HIa1.out HFr.out (by omega) HN).mono ?_
   rintro e w2 ⟨s2, d2, rfl, ho2, hb2⟩
   have HB2 : Hid (Below w.heap.size w w2) := qa0 HBa1.out hb2
   have HV2 : Hid (Vr w2 w.heap.size (.int .i64 (r : Int)) (.int .i64 (c : Int)) (.slice a n k)) := HVa1.out.later hb2
   have HO2 : Hid (w2.ownsRow (w1.alloc (.cells #[.int .i64 0, .int .i64 0, .slice none 0 0] 24)).heap.size 5 1 (.slice s2 N d2) N (row N (pkf F f c)).toList) := ho2
   have HZ2 : Hid (Vr w2 w1.heap.size (.int .i64 0) (.int .i64 0) (.slice none 0 0)) := HZa1.out.later hb2
   have hbz : w1.heap.size < (w1.alloc (.cells #[.int .i64 0, .int .i64 0, .slice none 0 0] 24)).heap.size := HZa1.out.lt
   clear ho2 hb2
   refine hKK.out _ _ ⟨HV2.out.c0, HV2.out.c1, HV2.out.c2⟩ (fun _ => ?_)
   clear hKK KK
   try simp only [mz1, mz2, mz3, Act.put, mz4, mz5, mz6]
   refine wtkq 4 ?vq7 rfl (by kernel_rfl) (fun _ _ _ h => h) (by rfl) ?yq7 ⟨HV2.out.c0, HV2.out.c1, HV2.out.c2⟩ ?zq7
   case yq7 => (intro w hSw; (try dsimp only at hSw); go_simp; try with_reducible rfl)
   try simp only [mz1, mz2, mz3, Act.put, mz4, mz5, mz6]
   refine wtkq 5 ?vq8 rfl (by kernel_rfl) (fun _ _ _ h => h) (by rfl) ?yq8 ⟨HV2.out.c0, HV2.out.c1, HV2.out.c2⟩ ?zq8
   case yq8 => (intro w hSw; (try dsimp only at hSw); go_simp; try with_reducible rfl)
   try simp only [mz1, mz2, mz3, Act.put, mz4, mz5, mz6]
   refine wtkq 6 ?vq9 rfl (by kernel_rfl) (fun _ _ _ h => h) (by rfl) ?yq9 ⟨HV2.out.c0, HV2.out.c1, HV2.out.c2⟩ ?zq9
   case yq9 => (intro w hSw; (try dsimp only at hSw); go_simp; try with_reducible rfl)
   try simp only [mz1, mz2, mz3, Act.put, mz4, mz5, mz6]
   refine wpAnyH_ready (rs := [8]) (by kernel_rfl) (by simp) ?_
   refine AllReadyH.cons rfl (fun KK hKK => ?_) AllReadyH.nil
   refine qaq rfl _ _ rfl (w1.heap.size) _ _ _ (.int .i64 (K : Int)) (.int .i64 (c : Int)) (.slice s2 N d2) rfl rfl HZ2.out rfl rfl rfl ?_
   intro w4 HV4 HG4
   have hne4 : (Value.slice s2 N d2).ownBlock ≠ some (w1.heap.size) := fun e => by have := qag HO2.out _ e; omega
   have HO4 : Hid (w4.ownsRow (w1.alloc (.cells #[.int .i64 0, .int .i64 0, .slice none 0 0] 24)).heap.size 5 1 (.slice s2 N d2) N (row N (pkf F f c)).toList) := qfw HO2.out HG4.out hne4
   have HW4 : Hid (Vr w4 w.heap.size (.int .i64 (r : Int)) (.int .i64 (c : Int)) (.slice a n k)) := HV2.out.kept HG4.out (by have := HV1.out.lt; omega)
   refine hKK.out _ _ ⟨HW4.out.c0, HW4.out.c1, HW4.out.c2⟩ (fun _ => ?_)
   clear hKK KK
   try simp only [mz1, mz2, mz3, Act.put]
   refine wtkq 9 ?vq10 rfl (by kernel_rfl) (fun _ _ _ h => h) (by rfl) ?yq10 ⟨HW4.out.c0, HW4.out.c1, HW4.out.c2⟩ ?zq10
   case yq10 => (intro w hSw; (try dsimp only at hSw); go_simp; try with_reducible rfl)
   try simp only [mz1, mz2, mz3, Act.put, mz4, mz5, mz6]
   refine wpAnyH_done (by kernel_rfl) ?_ _
   have HP4 : Hid (Sl w4 s2 N (pkf F f c)) := qdh HO4.out HPF.out
   have HN4 : Hid (s2 = none → N = 0 ∧ d2 = 0) := qcl HO4.out
   have x0 := HV4.out.c0
   have x1 := HV4.out.c1
   have x2 := HV4.out.c2
   have HB4 : Hid (Below w.heap.size w w4) := HB2.out.trans (jbelow HG4.out HB2.out.size (fun g e => by cases e; have := HV1.out.lt; omega))
   go_wp2_with (go_at_call 84; refine (qg0 _ K c N d2 s2 (pkf F f c) HP4.out HN4.out HRk.out).mono ?_; rintro e w5 ⟨t, rfl, hk, hb5⟩; have HT : Hid (RS (m2 F r c) r s t) := HConv.out t hk; have HB5 : Hid (Below w.heap.size w w5) := qa0 HB4.out hb5; clear hk hb5)
   go_ret
   exact ⟨t, rfl, HT.out, HB5.out⟩
 ·go_simp
  have HZa0 : Hid (Vr (W0.alloc (.cells #[.int .i64 0, .int .i64 0, .slice none 0 0] 24)) W0.heap.size (.int .i64 0) (.int .i64 0) (.slice none 0 0)) := Vr.new _ _ _ _
  have HBa0 : Hid (Below w.heap.size w (W0.alloc (.cells #[.int .i64 0, .int .i64 0, .slice none 0 0] 24))) := qa0 HB0.out (qa1 _ _)
  have HVa0 : Hid (Vr (W0.alloc (.cells #[.int .i64 0, .int .i64 0, .slice none 0 0] 24)) w.heap.size (.int .i64 (r : Int)) (.int .i64 (c : Int)) (.slice a n k)) := HX0.out.later (qa1 _ _)
  refine hKK.out _ _ ⟨HVa0.out.c0, HVa0.out.c1, HVa0.out.c2⟩ (fun _ => ?_)
  clear hKK KK
  try simp only [mz1, mz2, mz3, Act.put, mz4, mz5, mz6]
  refine wpAnyH_ready (rs := [2]) (by kernel_rfl) (by simp) ?_
  refine AllReadyH.cons rfl (fun KK hKK => ?_) AllReadyH.nil
  go_simp
  refine (HL.out _).mono ?_
  rintro e w1 ⟨xs1, d1, rfl, hj1, hb1⟩
  have HI1 : Hid (Il w1 xs1 K (fun i => (f i : Int))) := hj1
  have HB1 : Hid (Below w.heap.size w w1) := qa0 HBa0.out hb1
  have HV1 : Hid (Vr w1 w.heap.size (.int .i64 (r : Int)) (.int .i64 (c : Int)) (.slice a n k)) := HVa0.out.later hb1
  have HZ1 : Hid (Vr w1 W0.heap.size (.int .i64 0) (.int .i64 0) (.slice none 0 0)) := HZa0.out.later hb1
  clear hj1 hb1
  refine hKK.out _ _ ⟨HV1.out.c0, HV1.out.c1, HV1.out.c2⟩ (fun _ => ?_)
  clear hKK KK
  try simp only [mz1, mz2, mz3, Act.put, mz4, mz5, mz6]
  refine wpAnyH_ready (rs := [3]) (by kernel_rfl) (by simp) ?_
  refine AllReadyH.cons rfl (fun KK hKK => ?_) AllReadyH.nil
  go_simp
  refine (qdx _ r c n k K d1 N a xs1 F f (HA.out.later HB1.out) HRt.out HI1.out HFr.out (by omega) HN).mono ?_
  rintro e w2 ⟨s2, d2, rfl, ho2, hb2⟩
  have HB2 : Hid (Below w.heap.size w w2) := qa0 HB1.out hb2
  have HV2 : Hid (Vr w2 w.heap.size (.int .i64 (r : Int)) (.int .i64 (c : Int)) (.slice a n k)) := HV1.out.later hb2
  have HO2 : Hid (w2.ownsRow w1.heap.size 5 1 (.slice s2 N d2) N (row N (pkf F f c)).toList) := ho2
  have HZ2 : Hid (Vr w2 W0.heap.size (.int .i64 0) (.int .i64 0) (.slice none 0 0)) := HZ1.out.later hb2
  have hbz : W0.heap.size < w1.heap.size := HZ1.out.lt
  clear ho2 hb2
  refine hKK.out _ _ ⟨HV2.out.c0, HV2.out.c1, HV2.out.c2⟩ (fun _ => ?_)
  clear hKK KK
  try simp only [mz1, mz2, mz3, Act.put, mz4, mz5, mz6]
  refine wtkq 4 ?vq11 rfl (by kernel_rfl) (fun _ _ _ h => h) (by rfl) ?yq11 ⟨HV2.out.c0, HV2.out.c1, HV2.out.c2⟩ ?zq11
  case yq11 => (intro w hSw; (try dsimp only at hSw); go_simp; try with_reducible rfl)
  try simp only [mz1, mz2, mz3, Act.put, mz4, mz5, mz6]
  refine wtkq 5 ?vq12 rfl (by kernel_rfl) (fun _ _ _ h => h) (by rfl) ?yq12 ⟨HV2.out.c0, HV2.out.c1, HV2.out.c2⟩ ?zq12
  case yq12 => (intro w hSw; (try dsimp only at hSw); go_simp; try with_reducible rfl)
  try simp only [mz1, mz2, mz3, Act.put, mz4, mz5, mz6]
  refine wtkq 6 ?vq13 rfl (by kernel_rfl) (fun _ _ _ h => h) (by rfl) ?yq13 ⟨HV2.out.c0, HV2.out.c1, HV2.out.c2⟩ ?zq13
  case yq13 => (intro w hSw; (try dsimp only at hSw); go_simp; try with_reducible rfl)
  try simp only [mz1, mz2, mz3, Act.put, mz4, mz5, mz6]
  refine wpAnyH_ready (rs := [8]) (by kernel_rfl) (by simp) ?_
  refine AllReadyH.cons rfl (fun KK hKK => ?_) AllReadyH.nil
  refine qaq rfl _ _ rfl (W0.heap.size) _ _ _ (.int .i64 (K : Int)) (.int .i64 (c : Int)) (.slice s2 N d2) rfl rfl HZ2.out rfl rfl rfl ?_
  intro w4 HV4 HG4
  have hne4 : (Value.slice s2 N d2).ownBlock ≠ some (W0.heap.size) := fun e => by have := qag HO2.out _ e; omega
  have HO4 : Hid (w4.ownsRow w1.heap.size 5 1 (.slice s2 N d2) N (row N (pkf F f c)).toList) := qfw HO2.out HG4.out hne4
  have HW4 : Hid (Vr w4 w.heap.size (.int .i64 (r : Int)) (.int .i64 (c : Int)) (.slice a n k)) := HV2.out.kept HG4.out (by have := HX0.out.lt; omega)
  refine hKK.out _ _ ⟨HW4.out.c0, HW4.out.c1, HW4.out.c2⟩ (fun _ => ?_)
  clear hKK KK
  try simp only [mz1, mz2, mz3, Act.put]
  refine wtkq 9 ?vq14 rfl (by kernel_rfl) (fun _ _ _ h => h) (by rfl) ?yq14 ⟨HW4.out.c0, HW4.out.c1, HW4.out.c2⟩ ?zq14
  case yq14 => (intro w hSw; (try dsimp only at hSw); go_simp; try with_reducible rfl)
  try simp only [mz1, mz2, mz3, Act.put, mz4, mz5, mz6]
  refine wpAnyH_done (by kernel_rfl) ?_ _
  have HP4 : Hid (Sl w4 s2 N (pkf F f c)) := qdh HO4.out HPF.out
  have HN4 : Hid (s2 = none → N = 0 ∧ d2 = 0) := qcl HO4.out
  have x0 := HV4.out.c0
  have x1 := HV4.out.c1
  have x2 := HV4.out.c2
  have HB4 : Hid (Below w.heap.size w w4) := HB2.out.trans (jbelow HG4.out HB2.out.size (fun g e => by cases e; have := HX0.out.lt; omega))
  go_wp2_with (go_at_call 84; refine (qg0 _ K c N d2 s2 (pkf F f c) HP4.out HN4.out HRk.out).mono ?_; rintro e w5 ⟨t, rfl, hk, hb5⟩; have HT : Hid (RS (m2 F r c) r s t) := HConv.out t hk; have HB5 : Hid (Below w.heap.size w w5) := qa0 HB4.out hb5; clear hk hb5)
  go_ret
  exact ⟨t, rfl, HT.out, HB5.out⟩
open Go.RowKit
/-- Why a matrix and a set may not be. -/
def BadE (r c : Int) (n s : Nat) (E : Int) : Prop := (¬ RightP r c n ∧ E = 3) ∨ (RightP r c n ∧ ¬ s < 2 ^ r.toNat ∧ E = 2)
theorem rbad_e (w : World) (r c E : Int) (n k s : Nat) (a : Option Addr) (hs6 : s < 18446744073709551616) (h : BadE r c n s E) :
  Calls Tryz.prog 83 #[mv r c a n k, .int .u64 (s : Int)] w fun e w' => e = .returned (.int .i64 E) ∧ Below w.heap.size w w' := by
 rcases h with ⟨h1, rfl⟩ | ⟨h1, h2, rfl⟩
 ·exact qju w r c n k s a h1
 ·obtain ⟨r', c', rfl, rfl, R⟩ := right_rt h1
  exact rbad_arg w r' c' n k s a R hs6 h2
theorem BadE.ne {r c E : Int} {n s : Nat} (h : BadE r c n s E) : (E == 0) = false := by
 rcases h with ⟨_, rfl⟩ | ⟨_, _, rfl⟩ <;> rfl
theorem qmd (w : World) (r c E : Int) (n k s : Nat) (a : Option Addr) (hs6 : s < 18446744073709551616) (h : BadE r c n s E) :
  Calls Tryz.prog 53 #[mv r c a n k, .int .u64 (s : Int)] w fun e w' => e = .returned (.tuple #[.int .i64 0, .int .i64 E]) ∧ Below w.heap.size w w' := by
 have HC : Hid (∀ w' : World, Calls Tryz.prog 83 #[mv r c a n k, .int .u64 (s : Int)] w' fun e w'' => e = .returned (.int .i64 E) ∧ Below w'.heap.size w' w'') := fun w' => rbad_e w' r c E n k s a hs6 h
 have hE := h.ne
 clear h hs6
 go_enter Tryz.func53, Tryz.ntmps53
 go_wp2_with (go_at_call 83; refine (HC.out _).mono ?_; rintro e w1 ⟨rfl, hb⟩; have HB1 : Hid (Below w.heap.size w w1) := qa0 (qa1 _ _) hb; clear hb)
 go_ret2
 exact ⟨rfl, HB1.out⟩
theorem qiu (w : World) (r c n k s : Nat) (a : Option Addr) (F : Nat → Nat) (ha : Sl w a n F) (R : Rt r c n) (hs : s < 2 ^ r) :
  Calls Tryz.prog 53 #[mv r c a n k, .int .u64 (s : Int)] w fun e w' => ∃ t : Nat, e = .returned (.tuple #[.int .i64 (t : Int), .int .i64 0]) ∧ RS (m2 F r c) r s t ∧ Below w.heap.size w w' := by
 have HC : Hid (∀ w' : World, Calls Tryz.prog 83 #[mv r c a n k, .int .u64 (s : Int)] w' fun e w'' => e = .returned (.int .i64 0) ∧ Below w'.heap.size w' w'') := fun w' => rbad_ok w' r c n k s a R hs
 have HK : Hid (∀ w' : World, Below w.heap.size w w' → Calls Tryz.prog 54 #[mv r c a n k, .int .u64 (s : Int)] w' fun e w'' => ∃ t : Nat, e = .returned (.int .i64 (t : Int)) ∧ RS (m2 F r c) r s t ∧ Below w'.heap.size w' w'') := fun w' hb => qet w' r c n k s a F (ha.later hb) R hs
 clear ha R hs
 go_enter Tryz.func53, Tryz.ntmps53
 go_wp2_with (first
  | (go_at_call 83; refine (HC.out _).mono ?_; rintro e w1 ⟨rfl, hb⟩; have HV1 := (Vr.new w (.int .i64 (r : Int)) (.int .i64 (c : Int)) (.slice a n k)).later hb; have v0 := HV1.c0; have v1 := HV1.c1; have v2 := HV1.c2; have HB1 : Hid (Below w.heap.size w w1) := qa0 (qa1 _ _) hb; clear hb HV1)
  | (go_at_call 54; refine (HK.out _ HB1.out).mono ?_; rintro e w2 ⟨t, rfl, ht, hb⟩; have HT : Hid (RS (m2 F r c) r s t) := ht; have HB2 : Hid (Below w.heap.size w w2) := qa0 HB1.out hb; clear hb ht))
 go_ret2
 exact ⟨t, rfl, HT.out, HB2.out⟩
end Go.Proofs.YtblagbghpfopcaaGreat
