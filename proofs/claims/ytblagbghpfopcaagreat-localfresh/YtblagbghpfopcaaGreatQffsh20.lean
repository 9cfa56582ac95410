/-
  Sets of a matrix's rows, each as a number whose bits say which rows it has: what they span, their ranks, bases and circuits. No Go in sight.
-/
import Derived.Test.YtblagbghpfopcaaGreatQffsh00
import Derived.Test.YtblagbghpfopcaaGreatQffsh13
import Derived.Test.YtblagbghpfopcaaGreatQffsh10
set_option maxRecDepth 100000
set_option maxHeartbeats 16000000
namespace Go.Proofs.YtblagbghpfopcaaGreat
theorem qaw (s i : Nat) : bt s i = 1 ↔ s.testBit i = true := by
 rw [Nat.testBit_eq_decide_div_mod_eq]
 simp [bt]
theorem qav {s i : Nat} (h : ¬ bt s i = 1) : bt s i = 0 := by have := qct s i; omega
theorem qja {s t : Nat} (h : ∀ i, bt s i = 1 ↔ bt t i = 1) : s = t := by
 apply Nat.eq_of_testBit_eq
 intro i
 have h1 := h i
 rw [qaw, qaw] at h1
 cases hs : s.testBit i <;> cases ht : t.testBit i <;> simp_all
theorem qbq (s t i : Nat) : bt (s ||| t) i = 1 ↔ bt s i = 1 ∨ bt t i = 1 := by
 rw [qaw, qaw, qaw, Nat.testBit_or]
 simp
theorem bt_and (s t i : Nat) : bt (s &&& t) i = 1 ↔ bt s i = 1 ∧ bt t i = 1 := by
 rw [qaw, qaw, qaw, Nat.testBit_and]
 simp
theorem qbv (i j : Nat) : bt (2 ^ i) j = 1 ↔ j = i := by
 rw [qaw, Nat.testBit_two_pow]
 simp [eq_comm]
theorem qmo (s n i : Nat) : bt (s % 2 ^ n) i = 1 ↔ i < n ∧ bt s i = 1 := by
 rw [qaw, qaw, Nat.testBit_mod_two_pow]
 simp
theorem qdj {s n i : Nat} (h : s < 2 ^ n) (hi : n ≤ i) : bt s i = 0 := by
 unfold bt
 rw [Nat.div_eq_of_lt (Nat.lt_of_lt_of_le h (Nat.pow_le_pow_right (by decide) hi))]
theorem bt_diff {s t : Nat} (hs : s < 2 ^ 64) (ht : t < 2 ^ 64) (i : Nat) : bt (s &&& (18446744073709551615 - t)) i = 1 ↔ bt s i = 1 ∧ ¬ bt t i = 1 := by
 rw [bt_and]
 by_cases hi : i < 64
 ·have e : (18446744073709551615 : Nat) - t = 2 ^ 64 - (t + 1) := by omega
  rw [e, qaw (2 ^ 64 - (t + 1)), Nat.testBit_two_pow_sub_succ ht, qaw t]
  simp [hi]
 ·have h1 := qdj hs (show 64 ≤ i by omega)
  constructor
  ·rintro ⟨h, _⟩; omega
  ·rintro ⟨h, _⟩; omega
theorem qkf {s R i : Nat} (hi : i < R) (h : bt s i = 1) : cn s i < cn s R ∧ lf s R (cn s i) = i := by
 have h1 := qal i s
 have h2 := qd0 (s := s) (show i + 1 ≤ R by omega)
 have h3 : cn s i < cn s R := by omega
 obtain ⟨a, b, c⟩ := qaj h3
 refine ⟨h3, ?_⟩
 rcases Nat.lt_trichotomy (lf s R (cn s i)) i with h4 | h4 | h4
 ·have h5 := qal (lf s R (cn s i)) s
  have h6 := qd0 (s := s) (show lf s R (cn s i) + 1 ≤ i by omega)
  omega
 ·exact h4
 ·have h6 := qd0 (s := s) (show i + 1 ≤ lf s R (cn s i) by omega)
  omega
/-- The rows of a set, the others noughts. -/
def mk (M : Nat → Nat → Nat) (s i j : Nat) : Nat := if bt s i = 1 then M i j else 0
theorem qmp {M : Nat → Nat → Nat} (hM : El2 M) (s : Nat) : El2 (mk M s) := fun i j => by unfold mk; split; exact hM i j; decide
theorem qhv {M : Nat → Nat → Nat} {s i : Nat} (h : bt s i = 1) : mk M s i = M i := funext fun _ => if_pos h
theorem mk_out {M : Nat → Nat → Nat} {s i : Nat} (h : ¬ bt s i = 1) : mk M s i = fun _ => 0 := funext fun _ => if_neg h
/-- A combination of the rows of a set. -/
def SS (M : Nat → Nat → Nat) (R s : Nat) (y : Nat → Nat) : Prop := Spn (mk M s) R y
theorem qck {M : Nat → Nat → Nat} (hM : El2 M) {R s i : Nat} (hi : i < R) (h : bt s i = 1) : SS M R s (M i) := by
 have h1 := qab (qmp hM s) hi
 rw [qhv h] at h1
 exact h1
theorem qhw {M N : Nat → Nat → Nat} {R s r : Nat} (h : ∀ i, i < R → bt s i = 1 → Spn N r (M i)) : Le (mk M s) R N r := fun i hi => by
 by_cases hb : bt s i = 1
 ·rw [qhv hb]; exact h i hi hb
 ·rw [mk_out hb]; exact qd4 N r
theorem qdx {M : Nat → Nat → Nat} (hM : El2 M) {R s t : Nat} (h : ∀ i, i < R → bt s i = 1 → bt t i = 1) : Le (mk M s) R (mk M t) R := qhw (fun i hi hb => qck hM hi (h i hi hb))
theorem SS.sub {M : Nat → Nat → Nat} (hM : El2 M) {R s t : Nat} {y : Nat → Nat} (hy : SS M R s y) (h : ∀ i, i < R → bt s i = 1 → bt t i = 1) : SS M R t y := Spn.trans hy (qdx hM h)
/-- The rank of the rows of a set. -/
def RS (M : Nat → Nat → Nat) (R s k : Nat) : Prop := Rk (mk M s) R k
theorem qfc {M : Nat → Nat → Nat} (hM : El2 M) (R s : Nat) : ∃ k, RS M R s k := rk_ex (qmp hM s) R
theorem RS.one {M : Nat → Nat → Nat} (hM : El2 M) {R s k l : Nat} (h : RS M R s k) (h2 : RS M R s l) : k = l := Rk.unique h h2 (SpEq.refl (qmp hM s) R)
theorem RS.congr {M : Nat → Nat → Nat} {R s t k : Nat} (h : RS M R s k) (e : ∀ i, i < R → (bt s i = 1 ↔ bt t i = 1)) : RS M R t k := Rk.at h (fun i j hi => by
 unfold mk
 by_cases hb : bt s i = 1
 ·rw [if_pos hb, if_pos ((e i hi).1 hb)]
 ·rw [if_neg hb, if_neg (fun h => hb ((e i hi).2 h))])
theorem SS.congr {M : Nat → Nat → Nat} (hM : El2 M) {R s t : Nat} {y : Nat → Nat} (h : SS M R s y) (e : ∀ i, i < R → (bt s i = 1 ↔ bt t i = 1)) : SS M R t y := h.sub hM (fun i hi hb => (e i hi).1 hb)
/-- The rows of a set, and one more behind them. -/
def mkx (M : Nat → Nat → Nat) (R s i t : Nat) : Nat → Nat := if t = R then M i else mk M s t
theorem qjb {M : Nat → Nat → Nat} (hM : El2 M) (R s i : Nat) : El2 (mkx M R s i) := fun t j => by unfold mkx; split; exact hM i j; exact qmp hM s t j
theorem qdq (M : Nat → Nat → Nat) {R s i t : Nat} (ht : t < R) : mkx M R s i t = mk M s t := if_neg (by omega)
theorem qgm (M : Nat → Nat → Nat) (R s i : Nat) : mkx M R s i R = M i := if_pos rfl
theorem qjc {M : Nat → Nat → Nat} (hM : El2 M) {R s i : Nat} (hi : i < R) : SpEq (mkx M R s i) (R + 1) (mk M (s ||| 2 ^ i)) R := by
 constructor
 ·intro t ht
  by_cases e : t = R
  ·subst e
   rw [qgm]
   exact qck hM hi ((qbq _ _ _).2 (.inr ((qbv i i).2 rfl)))
  ·rw [qdq M (by omega)]
   exact qdx hM (fun j _ hb => (qbq _ _ _).2 (.inl hb)) t (by omega)
 ·refine qhw (fun t ht hb => ?_)
  rcases (qbq _ _ _).1 hb with h | h
  ·have h1 := qab (qjb hM R s i) (r := R + 1) (show t < R + 1 by omega)
   rw [qdq M ht, qhv h] at h1
   exact h1
  ·rw [qbv] at h
   subst h
   have h1 := qab (qjb hM R s t) (r := R + 1) (show R < R + 1 by omega)
   rw [qgm] at h1
   exact h1
theorem RS.same {M : Nat → Nat → Nat} (hM : El2 M) {R s i k : Nat} (hi : i < R) (h : RS M R s k) (hs : SS M R s (M i)) : RS M R (s ||| 2 ^ i) k := by
 have h1 : Rk (mkx M R s i) R k := Rk.at h (fun t j ht => by rw [qdq M ht])
 have h2 : Spn (mkx M R s i) R (mkx M R s i R) := by
  rw [qgm]
  exact Spn.rows hs (fun t j ht => by rw [qdq M ht])
 exact (h1.same (qjb hM R s i) h2).span (qjc hM hi)
theorem RS.more {M : Nat → Nat → Nat} (hM : El2 M) {R s i k : Nat} (hi : i < R) (h : RS M R s k) (hs : ¬ SS M R s (M i)) : RS M R (s ||| 2 ^ i) (k + 1) := by
 have h1 : Rk (mkx M R s i) R k := Rk.at h (fun t j ht => by rw [qdq M ht])
 have h2 : ¬ Spn (mkx M R s i) R (mkx M R s i R) := by
  rw [qgm]
  exact fun h => hs (Spn.rows h (fun t j ht => by rw [qdq M ht]))
 exact (h1.more (qjb hM R s i) h2).span (qjc hM hi)
theorem RS.add {M : Nat → Nat → Nat} (hM : El2 M) {R s i k l : Nat} (hi : i < R) (h : RS M R s k) (h2 : RS M R (s ||| 2 ^ i) l) : (SS M R s (M i) ∧ l = k) ∨ (¬ SS M R s (M i) ∧ l = k + 1) := by
 by_cases hs : SS M R s (M i)
 ·exact .inl ⟨hs, h2.one hM (h.same hM hi hs)⟩
 ·exact .inr ⟨hs, h2.one hM (h.more hM hi hs)⟩
theorem RS.mono {M : Nat → Nat → Nat} (hM : El2 M) {R s t k l : Nat} (h : RS M R s k) (h2 : RS M R t l) (hst : ∀ i, i < R → bt s i = 1 → bt t i = 1) : k ≤ l := Rk.mono h2 h (qdx hM hst)
theorem rs_none {M : Nat → Nat → Nat} {R s : Nat} (hM : El2 M) (h : ∀ i, i < R → ¬ bt s i = 1) : RS M R s 0 := by
 obtain ⟨k, hk⟩ := qfc hM R s
 have h1 : k ≤ 0 := Rk.le hk (N := M) (s := 0) (qhw (fun i hi hb => absurd hb (h i hi)))
 obtain rfl : k = 0 := by omega
 exact hk
/-- The picked rows span what the set's rows span. -/
theorem qdk {M : Nat → Nat → Nat} (hM : El2 M) (R s : Nat) : SpEq (fun t => M (lf s R t)) (cn s R) (mk M s) R := by
 constructor
 ·intro t ht
  obtain ⟨a, b, c⟩ := qaj ht
  exact qck hM a b
 ·refine qhw (fun i hi hb => ?_)
  obtain ⟨a, b⟩ := qkf hi hb
  have h1 := qab (M := fun t => M (lf s R t)) (fun t j => hM _ j) a
  rw [← b]
  exact h1
theorem qmq {M : Nat → Nat → Nat} (hM : El2 M) {R s k : Nat} : Rk (fun t => M (lf s R t)) (cn s R) k ↔ RS M R s k :=
 ⟨fun h => h.span (qdk hM R s), fun h => Rk.span h (qdk hM R s).symm⟩
theorem RS.le {M : Nat → Nat → Nat} (hM : El2 M) {R s k : Nat} (h : RS M R s k) : k ≤ cn s R := Rk.rows (M := fun t => M (lf s R t)) (fun _ j => hM _ j) ((qmq hM).2 h)
theorem qjd {t n : Nat} (h : bt t n = 1) : t % 2 ^ (n + 1) = t % 2 ^ n ||| 2 ^ n := by
 rw [qh4 (Nat.mod_lt _ (Nat.two_pow_pos n)), qiz, h, Nat.mul_one]
theorem qgn {t n : Nat} (h : ¬ bt t n = 1) : t % 2 ^ (n + 1) = t % 2 ^ n := by
 rw [qiz, qav h]
 rfl
theorem qh7 {u t n : Nat} (h : bt t n = 1) : u ||| t % 2 ^ (n + 1) = (u ||| t % 2 ^ n) ||| 2 ^ n := by rw [qjd h, Nat.or_assoc]
theorem qfq {u t n : Nat} (h : ¬ bt t n = 1) : u ||| t % 2 ^ (n + 1) = u ||| t % 2 ^ n := by rw [qgn h]
/-- What is added to more, adds less. -/
theorem rs_sums {M : Nat → Nat → Nat} (hM : El2 M) {R s u t a d : Nat} (hus : ∀ i, i < R → bt u i = 1 → bt s i = 1) (ha : RS M R s a) (hd : RS M R u d) :
  ∀ n, n ≤ R → ∀ c b, RS M R (s ||| t % 2 ^ n) c → RS M R (u ||| t % 2 ^ n) b → c + d ≤ a + b := by
 intro n
 induction n with
 | zero =>
  intro _ c b hc hb
  rw [Nat.pow_zero, Nat.mod_one, Nat.or_zero] at hc hb
  have := hc.one hM ha
  have := hb.one hM hd
  omega
 | succ n ih =>
  intro hn c b hc hb
  by_cases h : bt t n = 1
  ·rw [qh7 h] at hc hb
   obtain ⟨c', hc'⟩ := qfc hM R (s ||| t % 2 ^ n)
   obtain ⟨b', hb'⟩ := qfc hM R (u ||| t % 2 ^ n)
   have h1 := ih (by omega) c' b' hc' hb'
   rcases hc'.add hM (by omega) hc with ⟨h2, h3⟩ | ⟨h2, h3⟩
   ·rcases hb'.add hM (by omega) hb with ⟨_, h5⟩ | ⟨_, h5⟩ <;> omega
   ·rcases hb'.add hM (by omega) hb with ⟨h4, h5⟩ | ⟨_, h5⟩
    ·refine absurd (h4.sub hM (fun i hi hbi => ?_)) h2
     rcases (qbq _ _ _).1 hbi with h6 | h6
     ·exact (qbq _ _ _).2 (.inl (hus i hi h6))
     ·exact (qbq _ _ _).2 (.inr h6)
    ·omega
  ·rw [qfq h] at hc hb
   exact ih (by omega) c b hc hb
theorem qcs {t R i : Nat} (hi : i < R) : bt (t % 2 ^ R) i = 1 ↔ bt t i = 1 := by rw [qmo]; exact ⟨fun h => h.2, fun h => ⟨hi, h⟩⟩
/-- With the rows of w more, which s has not, the rank rises at most by their number. -/
theorem rs_up {M : Nat → Nat → Nat} (hM : El2 M) {R s t w a : Nat} (hw : ∀ i, i < R → (bt w i = 1 ↔ bt t i = 1 ∧ ¬ bt s i = 1)) (ha : RS M R s a) :
  ∀ n, n ≤ R → ∀ c, RS M R (s ||| t % 2 ^ n) c → c ≤ a + cn w n := by
 intro n
 induction n with
 | zero =>
  intro _ c hc
  rw [Nat.pow_zero, Nat.mod_one, Nat.or_zero] at hc
  have := hc.one hM ha
  omega
 | succ n ih =>
  intro hn c hc
  have h7 := qal n w
  by_cases h : bt t n = 1
  ·rw [qh7 h] at hc
   obtain ⟨c', hc'⟩ := qfc hM R (s ||| t % 2 ^ n)
   have h1 := ih (by omega) c' hc'
   by_cases hs : bt s n = 1
   ·have h8 := hc'.same hM (by omega) (qck hM (by omega) ((qbq _ _ _).2 (.inl hs)))
    have := hc.one hM h8
    omega
   ·have h8 := (hw n (by omega)).2 ⟨h, hs⟩
    rcases hc'.add hM (by omega) hc with ⟨_, h3⟩ | ⟨_, h3⟩ <;> omega
  ·rw [qfq h] at hc
   have := ih (by omega) c hc
   omega
theorem rs_union {M : Nat → Nat → Nat} (hM : El2 M) {R s t w a c : Nat} (hw : ∀ i, i < R → (bt w i = 1 ↔ bt t i = 1 ∧ ¬ bt s i = 1)) (ha : RS M R s a) (hc : RS M R (s ||| t) c) : c ≤ a + cn w R :=
 rs_up hM hw ha R (Nat.le_refl _) c (hc.congr (fun i hi => by rw [qbq, qbq, qcs hi]))
theorem qje {s t u : Nat} : ∀ n, (∀ i, i < n → (bt s i = 1 ↔ bt t i = 1 ∨ bt u i = 1)) → (∀ i, i < n → ¬ (bt t i = 1 ∧ bt u i = 1)) → cn s n = cn t n + cn u n := by
 intro n
 induction n with
 | zero => intro _ _; rfl
 | succ n ih =>
  intro h1 h2
  have h3 := ih (fun i hi => h1 i (by omega)) (fun i hi => h2 i (by omega))
  have h4 := h1 n (by omega)
  have h5 := h2 n (by omega)
  have := qct s n
  have := qct t n
  have := qct u n
  rw [qal, qal, qal]
  omega
theorem qhx {s t : Nat} : ∀ n, (∀ i, i < n → (bt s i = 1 ↔ bt t i = 1)) → cn s n = cn t n := by
 intro n
 induction n with
 | zero => intro _; rfl
 | succ n ih =>
  intro h
  have h3 := ih (fun i hi => h i (by omega))
  have h4 := h n (by omega)
  have := qct s n
  have := qct t n
  rw [qal, qal]
  omega
theorem qjf {s i R : Nat} (hi : i < R) (h : ¬ bt s i = 1) : cn (s ||| 2 ^ i) R = cn s R + 1 := by
 rw [qje (t := s) (u := 2 ^ i) R (fun j _ => qbq _ _ _) (fun j _ hh => by rw [qbv] at hh; rw [hh.2] at hh; exact h hh.1)]
 have e : cn (2 ^ i) R = 1 := by
  have h1 : ∀ n, n ≤ i → cn (2 ^ i) n = 0 := by
   intro n
   induction n with
   | zero => intro _; rfl
   | succ n ih => intro hn; rw [qal, ih (by omega), qav (by rw [qbv]; omega)]
  have h2 : ∀ d, cn (2 ^ i) (i + 1 + d) = 1 := by
   intro d
   induction d with
   | zero => rw [Nat.add_zero, qal, h1 i (Nat.le_refl _), (qbv i i).2 rfl]
   | succ d ih => rw [← Nat.add_assoc, qal, ih, qav (by rw [qbv]; omega)]
  have h3 := h2 (R - (i + 1))
  rwa [show i + 1 + (R - (i + 1)) = R by omega] at h3
 rw [e]
/-- A set of independent rows. -/
def FreeS (M : Nat → Nat → Nat) (R s : Nat) : Prop := RS M R s (cn s R)
/-- What an independent set holds, is independent. -/
theorem FreeS.sub {M : Nat → Nat → Nat} (hM : El2 M) {R s u w : Nat} (h : FreeS M R s) (hus : ∀ i, i < R → bt u i = 1 → bt s i = 1) (hw : ∀ i, i < R → (bt w i = 1 ↔ bt s i = 1 ∧ ¬ bt u i = 1)) : FreeS M R u := by
 obtain ⟨a, ha⟩ := qfc hM R u
 have h1 : RS M R (u ||| s) (cn s R) := RS.congr h (fun i hi => by rw [qbq]; exact ⟨fun h => .inr h, fun h => h.elim (hus i hi) id⟩)
 have h2 := rs_union hM hw ha h1
 have h3 := qje (s := s) (t := u) (u := w) R (fun i hi => by
  rw [hw i hi]
  constructor
  ·intro h
   by_cases hu : bt u i = 1
   ·exact .inl hu
   ·exact .inr ⟨h, hu⟩
  ·rintro (h | h)
   ·exact hus i hi h
   ·exact h.1) (fun i hi hh => ((hw i hi).1 hh.2).2 hh.1)
 have h4 := ha.le hM
 have h5 : a = cn u R := by omega
 unfold FreeS
 rw [← h5]
 exact ha
/-- A row of an independent set is no combination of the others. -/
theorem FreeS.row {M : Nat → Nat → Nat} (hM : El2 M) {R s t i : Nat} (h : FreeS M R s) (hi : i < R) (hb : bt s i = 1) (ht : ∀ j, j < R → (bt t j = 1 ↔ bt s j = 1 ∧ j ≠ i)) : ¬ SS M R t (M i) := by
 intro hs
 obtain ⟨k, hk⟩ := qfc hM R t
 have h0 : ¬ bt t i = 1 := fun h => ((ht i hi).1 h).2 rfl
 have h1 := hk.same hM hi hs
 have h2 : ∀ j, j < R → (bt (t ||| 2 ^ i) j = 1 ↔ bt s j = 1) := fun j hj => by
  rw [qbq, qbv, ht j hj]
  constructor
  ·rintro (h | h)
   ·exact h.1
   ·rw [h]; exact hb
  ·intro h
   by_cases e : j = i
   ·exact .inr e
   ·exact .inl ⟨h, e⟩
 have h3 := RS.one hM (h1.congr h2) h
 have h4 := hk.le hM
 have h5 := qjf hi h0
 have h6 := qhx R h2
 omega
theorem FreeS.add {M : Nat → Nat → Nat} (hM : El2 M) {R s i : Nat} (h : FreeS M R s) (hi : i < R) (hs : ¬ SS M R s (M i)) : FreeS M R (s ||| 2 ^ i) := by
 have h0 : ¬ bt s i = 1 := fun hb => hs (qck hM hi hb)
 unfold FreeS
 rw [qjf hi h0]
 exact RS.more hM hi h hs
/-- p is the span of s. -/
def SpS (M : Nat → Nat → Nat) (R s p : Nat) : Prop := p < 2 ^ R ∧ ∀ i, i < R → (bt p i = 1 ↔ SS M R s (M i))
theorem SpS.one {M : Nat → Nat → Nat} {R s p q : Nat} (h : SpS M R s p) (h2 : SpS M R s q) : p = q := by
 apply qja
 intro i
 by_cases hi : i < R
 ·rw [h.2 i hi, h2.2 i hi]
 ·rw [qdj h.1 (by omega), qdj h2.1 (by omega)]
theorem SpS.has {M : Nat → Nat → Nat} (hM : El2 M) {R s p : Nat} (h : SpS M R s p) : ∀ i, i < R → bt s i = 1 → bt p i = 1 := fun i hi hb => (h.2 i hi).2 (qck hM hi hb)
theorem SpS.span {M : Nat → Nat → Nat} (hM : El2 M) {R s p : Nat} (h : SpS M R s p) : SpEq (mk M p) R (mk M s) R := ⟨qhw (fun i hi hb => (h.2 i hi).1 hb), qdx hM (h.has hM)⟩
theorem SpS.rank {M : Nat → Nat → Nat} (hM : El2 M) {R s p k : Nat} (h : SpS M R s p) (hk : RS M R s k) : RS M R p k := Rk.span hk (h.span hM).symm
theorem sps_same {M : Nat → Nat → Nat} {R s t p : Nat} (h : SpS M R s p) (e : SpEq (mk M s) R (mk M t) R) : SpS M R t p := ⟨h.1, fun i hi => (h.2 i hi).trans ⟨fun h => Spn.trans h e.1, fun h => Spn.trans h e.2⟩⟩
theorem SpS.again {M : Nat → Nat → Nat} (hM : El2 M) {R s p : Nat} (h : SpS M R s p) : SpS M R p p := sps_same h (h.span hM).symm
/-- b is the basis of s: the rows that are no combination of those ahead. -/
def BaS (M : Nat → Nat → Nat) (R s b : Nat) : Prop := b < 2 ^ R ∧ ∀ i, i < R → (bt b i = 1 ↔ bt s i = 1 ∧ ¬ SS M R (s % 2 ^ i) (M i))
theorem BaS.one {M : Nat → Nat → Nat} {R s p q : Nat} (h : BaS M R s p) (h2 : BaS M R s q) : p = q := by
 apply qja
 intro i
 by_cases hi : i < R
 ·rw [h.2 i hi, h2.2 i hi]
 ·rw [qdj h.1 (by omega), qdj h2.1 (by omega)]
theorem spn_ins {M : Nat → Nat → Nat} (hM : El2 M) {R u v i : Nat} (hi : i < R) (h : SpEq (mk M u) R (mk M v) R) : SpEq (mk M (u ||| 2 ^ i)) R (mk M (v ||| 2 ^ i)) R := by
 have key : ∀ a b, Le (mk M a) R (mk M b) R → Le (mk M (a ||| 2 ^ i)) R (mk M (b ||| 2 ^ i)) R := fun a b hab => qhw (fun j hj hb => by
  rcases (qbq _ _ _).1 hb with h1 | h1
  ·exact Spn.trans (Spn.trans (qck hM hj h1) hab) (qdx hM (fun t _ ht => (qbq _ _ _).2 (.inl ht)))
  ·rw [qbv] at h1
   subst h1
   exact qck hM hj ((qbq _ _ _).2 (.inr ((qbv j j).2 rfl))))
 exact ⟨key u v h.1, key v u h.2⟩
theorem spn_idle {M : Nat → Nat → Nat} (hM : El2 M) {R u i : Nat} (_hi : i < R) (h : SS M R u (M i)) : SpEq (mk M (u ||| 2 ^ i)) R (mk M u) R :=
 ⟨qhw (fun j hj hb => by
  rcases (qbq _ _ _).1 hb with h1 | h1
  ·exact qck hM hj h1
  ·rw [qbv] at h1; rw [h1]; exact h), qdx hM (fun t _ ht => (qbq _ _ _).2 (.inl ht))⟩
theorem bas_low {M : Nat → Nat → Nat} (hM : El2 M) {R s b : Nat} : ∀ n, n ≤ R → (∀ i, i < n → (bt b i = 1 ↔ bt s i = 1 ∧ ¬ SS M R (s % 2 ^ i) (M i))) → RS M R (b % 2 ^ n) (cn b n) ∧ SpEq (mk M (b % 2 ^ n)) R (mk M (s % 2 ^ n)) R := by
 intro n
 induction n with
 | zero =>
  intro _ _
  rw [Nat.pow_zero, Nat.mod_one, Nat.mod_one]
  exact ⟨rs_none hM (fun i _ => by rw [qdj (n := 0) (by decide) (Nat.zero_le _)]; decide), SpEq.refl (qmp hM 0) R⟩
 | succ n ih =>
  intro hn h
  obtain ⟨h1, h2⟩ := ih (by omega) (fun i hi => h i (by omega))
  have hb := h n (by omega)
  rw [qal]
  by_cases hs : bt s n = 1
  ·by_cases hss : SS M R (s % 2 ^ n) (M n)
   ·have h0 : ¬ bt b n = 1 := fun hx => (hb.1 hx).2 hss
    rw [qgn h0, qav h0, Nat.add_zero, qjd hs]
    exact ⟨h1, h2.trans (spn_idle hM (by omega) hss).symm⟩
   ·have h0 : bt b n = 1 := hb.2 ⟨hs, hss⟩
    rw [qjd h0, h0, qjd hs]
    exact ⟨h1.more hM (by omega) (fun hx => hss (Spn.trans hx h2.1)), spn_ins hM (by omega) h2⟩
  ·have h0 : ¬ bt b n = 1 := fun hx => hs (hb.1 hx).1
   rw [qgn h0, qav h0, Nat.add_zero, qgn hs]
   exact ⟨h1, h2⟩
theorem BaS.low {M : Nat → Nat → Nat} (hM : El2 M) {R s b : Nat} (h : BaS M R s b) (n : Nat) (hn : n ≤ R) : RS M R (b % 2 ^ n) (cn b n) ∧ SpEq (mk M (b % 2 ^ n)) R (mk M (s % 2 ^ n)) R := bas_low hM n hn (fun i hi => h.2 i (by omega))
theorem mk_low {M : Nat → Nat → Nat} (hM : El2 M) (R s : Nat) : SpEq (mk M (s % 2 ^ R)) R (mk M s) R := ⟨qdx hM (fun _ hi h => (qcs hi).1 h), qdx hM (fun _ hi h => (qcs hi).2 h)⟩
theorem BaS.free {M : Nat → Nat → Nat} (hM : El2 M) {R s b : Nat} (h : BaS M R s b) : FreeS M R b ∧ SpEq (mk M b) R (mk M s) R := by
 obtain ⟨h1, h2⟩ := h.low hM R (Nat.le_refl _)
 exact ⟨h1.congr (fun i hi => qcs hi), ((mk_low hM R b).symm.trans h2).trans (mk_low hM R s)⟩
/-- The factor of a row i of an independent set in a combination is not 0 just if the combination is none of the others'. -/
theorem circ_iff {M : Nat → Nat → Nat} (hM : El2 M) {R s t i : Nat} {y a : Nat → Nat} (h : FreeS M R s) (hi : i < R) (hb : bt s i = 1) (ht : ∀ j, j < R → (bt t j = 1 ↔ bt s j = 1 ∧ j ≠ i)) (ha : El a) (hy : ∀ j, y j = lc a (mk M s) R j) :
  a i ≠ 0 ↔ ¬ SS M R t y := by
 have hrest : Spn (mk M t) R (lc (fun j => if j = i then 0 else a j) (mk M s) R) := by
  refine qem (fun j => by split; decide; exact ha j) (fun j hj hne => ?_)
  by_cases e : j = i
  ·rw [if_pos e] at hne; exact absurd rfl hne
  ·by_cases hbj : bt s j = 1
   ·rw [qhv hbj]
    exact qck hM hj ((ht j hj).2 ⟨hbj, e⟩)
   ·rw [mk_out hbj]
    exact qd4 _ _
 have hsplit : ∀ j, y j = fm (a i) (M i j) ^^^ lc (fun j => if j = i then 0 else a j) (mk M s) R j := by
  intro j
  have h1 : lc a (mk M s) R j = lc (fun t => (if t = i then a i else 0) ^^^ (if t = i then 0 else a t)) (mk M s) R j := qb1 (fun t _ => by
   by_cases e : t = i
   ·rw [if_pos e, if_pos e, Nat.xor_zero, e]
   ·rw [if_neg e, if_neg e, Nat.zero_xor]) (fun _ _ => rfl)
  rw [hy j, h1, qfe (fun t => by show (if t = i then a i else 0) < 256; split; exact ha i; decide) (fun t => by show (if t = i then 0 else a t) < 256; split; decide; exact ha t)]
  congr 1
  unfold lc
  rw [qbr hi (fun k _ hk => by show fm (if k = i then a i else 0) _ = 0; rw [if_neg hk, qac])]
  show fm (if i = i then a i else 0) _ = _
  rw [if_pos rfl, qhv hb]
 constructor
 ·intro hne hs
  have h1 : Spn (mk M t) R (fun j => y j ^^^ lc (fun j => if j = i then 0 else a j) (mk M s) R j) := qcb hs hrest
  have h2 := qb2 (qae (a i)) h1
  refine FreeS.row hM h hi hb ht (h2.congr (fun j => ?_))
  rw [hsplit j, Nat.xor_assoc, Nat.xor_self, Nat.xor_zero, ← qam _ _ _ (qae _) (ha i), qaf _ _ (qae _) (ha i), qar _ (ha i) hne, qb7 _ (hM i j)]
 ·intro hs e
  refine hs (hrest.congr (fun j => ?_))
  rw [hsplit j, e, qac, Nat.zero_xor]
/-- A set without one number. -/
def rem (s i : Nat) : Nat := s &&& (2 ^ 64 - 1 - 2 ^ i)
theorem qdy {s i : Nat} (hs : s < 2 ^ 64) (hi : i < 64) (j : Nat) : bt (rem s i) j = 1 ↔ bt s j = 1 ∧ j ≠ i := by
 have h1 : 2 ^ i < 2 ^ 64 := Nat.pow_lt_pow_right (by decide) hi
 have h2 := bt_diff hs h1 j
 rw [qbv] at h2
 exact h2
/-- A set that is made number by number, up to i: it has those that keep P. -/
def Bld (P : Nat → Prop) (i z : Nat) : Prop := z < 2 ^ i ∧ ∀ j, j < i → (bt z j = 1 ↔ P j)
theorem Bld.start (P : Nat → Prop) : Bld P 0 0 := ⟨by decide, fun j hj => by omega⟩
theorem Bld.yes {P : Nat → Prop} {i z : Nat} (h : Bld P i z) (hp : P i) : Bld P (i + 1) (z ||| 2 ^ i) := by
 refine ⟨Nat.or_lt_two_pow (Nat.lt_of_lt_of_le h.1 (Nat.pow_le_pow_right (by decide) (by omega))) (Nat.pow_lt_pow_right (by decide) (by omega)), fun j hj => ?_⟩
 rw [qbq, qbv]
 by_cases e : j = i
 ·rw [e]; exact ⟨fun _ => hp, fun _ => .inr rfl⟩
 ·rw [h.2 j (by omega)]; exact ⟨fun h => h.elim id (fun h => absurd h e), .inl⟩
theorem Bld.no {P : Nat → Prop} {i z : Nat} (h : Bld P i z) (hp : ¬ P i) : Bld P (i + 1) z := by
 refine ⟨Nat.lt_of_lt_of_le h.1 (Nat.pow_le_pow_right (by decide) (by omega)), fun j hj => ?_⟩
 by_cases e : j = i
 ·rw [e, qdj h.1 (Nat.le_refl _)]; exact ⟨fun h => by omega, fun h => absurd h hp⟩
 ·exact h.2 j (by omega)
end Go.Proofs.YtblagbghpfopcaaGreat
