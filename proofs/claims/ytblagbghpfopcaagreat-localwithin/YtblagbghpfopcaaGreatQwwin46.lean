/-
  Stage 19: local.others tells every set of the size that has not b.
  Stage 19: the search's order, and what is known when some of its sets were looked at.
  Stage 19: local.search.
  Stage 19: a least set that repairs, and its factors.
  Stage 19: what search's walk needs.
  Stage 19: local.placed.
-/
import Derived.Test.YtblagbghpfopcaaGreatQwwin00
import Derived.Test.YtblagbghpfopcaaGreatQwwin45
import Derived.Test.YtblagbghpfopcaaGreatQwwin41
set_option maxRecDepth 100000
set_option maxHeartbeats 16000000
namespace Go.Proofs.YtblagbghpfopcaaGreat
open Go.RowKit Go.Shelf
/-- At the least number that not both have, s has it and t has not. -/
def Lex (s t : Nat) : Prop := ∃ i, (∀ j, j < i → bt s j = bt t j) ∧ bt s i = 1 ∧ bt t i = 0
theorem qew (s : Nat) : bt s 0 = s % 2 := by unfold bt; rw [Nat.pow_zero, Nat.div_one]
theorem qmx : ∀ l s t, s < 2 ^ l → cn s l = cn t l → Lex s t → pla s l < pla t l := by
 intro l
 induction l with
 | zero =>
  rintro s t hs _ ⟨i, _, h1, _⟩
  have : s = 0 := by rw [Nat.pow_zero] at hs; omega
  subst this
  unfold bt at h1
  rw [Nat.zero_div] at h1
  omega
 | succ l ih =>
  rintro s t hs hc ⟨i, hlow, h1, h2⟩
  cases i with
  | zero =>
   rw [qew] at h1 h2
   rw [qb7 h1, qaw h2, ← hc, qby h1]
   have := qhu l (s / 2)
   show _ < bin l (cn (s / 2) l) + _
   omega
  | succ i =>
   have h0 := hlow 0 (by omega)
   rw [qew, qew] at h0
   have hx : Lex (s / 2) (t / 2) := ⟨i, fun j hj => by rw [qe6, qe6]; exact hlow (j + 1) (by omega), by rw [qe6]; exact h1, by rw [qe6]; exact h2⟩
   have hs2 : s / 2 < 2 ^ l := by rw [Nat.pow_succ] at hs; omega
   rcases (by omega : s % 2 = 1 ∨ s % 2 = 0) with e | e
   ·have e2 : t % 2 = 1 := by omega
    rw [qby e, qby e2] at hc
    rw [qb7 e, qb7 e2]
    exact ih _ _ hs2 (by omega) hx
   ·have e2 : t % 2 = 0 := by omega
    rw [qaw e, qaw e2, hc]
    rw [qbi e, qbi e2] at hc
    have := ih _ _ hs2 hc hx
    omega
theorem qmy {s t : Nat} (h : s ≠ t) : Lex s t ∨ Lex t s := by
 have hex : ∃ i, bt s i ≠ bt t i := by
  apply Classical.byContradiction
  intro hn
  exact h (qfh (fun i => by
   have : bt s i = bt t i := Classical.byContradiction (fun e => hn ⟨i, e⟩)
   rw [this]))
 obtain ⟨i, hi, hlow⟩ : ∃ i, bt s i ≠ bt t i ∧ ∀ j, j < i → bt s j = bt t j := by
  obtain ⟨i, hi⟩ := hex
  induction i using Nat.strongRecOn with
  | _ i ih =>
   by_cases hl : ∀ j, j < i → bt s j = bt t j
   ·exact ⟨i, hi, hl⟩
   ·obtain ⟨j, hj⟩ := Classical.not_forall.mp hl
    obtain ⟨hj1, hj2⟩ := Classical.not_imp.mp hj
    exact ih j hj1 hj2
 have h1 := qcn s i
 have h2 := qcn t i
 rcases (by omega : (bt s i = 1 ∧ bt t i = 0) ∨ (bt t i = 1 ∧ bt s i = 0)) with h3 | h3
 ·exact .inl ⟨i, hlow, h3⟩
 ·exact .inr ⟨i, fun j hj => (hlow j hj).symm, h3⟩
/-- g is s, with the numbers from b on raised by one. -/
def Rsd (b s g : Nat) : Prop := ∀ i, bt g i = 1 ↔ (i < b ∧ bt s i = 1) ∨ (b < i ∧ bt s (i - 1) = 1)
theorem Rsd.none {b s g : Nat} (h : Rsd b s g) : ¬ bt g b = 1 := fun e => by
 rcases (h b).1 e with h1 | h1 <;> omega
theorem Rsd.low {b s g : Nat} (h : Rsd b s g) : cn g b = cn s b := qhj b (fun i hi => by
 rw [h i]
 exact ⟨fun h1 => h1.elim (fun h2 => h2.2) (fun h2 => by omega), fun h1 => .inl ⟨hi, h1⟩⟩)
theorem Rsd.num {b s g : Nat} (h : Rsd b s g) : ∀ d, cn g (b + d + 1) = cn s (b + d) := by
 intro d
 induction d with
 | zero =>
  show cn g (b + 1) = cn s b
  rw [qai, h.low, qao h.none]
  rfl
 | succ d ih =>
  rw [show b + (d + 1) + 1 = (b + d + 1) + 1 by omega, qai, ih, show b + (d + 1) = (b + d) + 1 by omega, qai]
  have e : bt g (b + d + 1) = 1 ↔ bt s (b + d) = 1 := by
   rw [h (b + d + 1)]
   exact ⟨fun h1 => h1.elim (fun h2 => by omega) (fun h2 => h2.2), fun h1 => .inr ⟨by omega, h1⟩⟩
  have h1 := qcn g (b + d + 1)
  have h2 := qcn s (b + d)
  by_cases h3 : bt s (b + d) = 1
  ·rw [h3, e.2 h3]
  ·have h4 : ¬ bt g (b + d + 1) = 1 := fun h5 => h3 (e.1 h5)
   omega
theorem Rsd.lt {b s g n : Nat} (h : Rsd b s g) (hb : b < n) (hs : s < 2 ^ (n - 1)) : g < 2 ^ n := by
 refine Nat.lt_pow_two_of_testBit _ (fun i hi => ?_)
 have : ¬ bt g i = 1 := fun e => by
  rcases (h i).1 e with h1 | h1
  ·omega
  ·have := qci hs (show n - 1 ≤ i - 1 by omega)
   omega
 rw [qar] at this
 simpa using this
theorem Rsd.same {b s t g u i : Nat} (hg : Rsd b s g) (hu : Rsd b t u) (h : (i < b → bt s i = bt t i) ∧ (b < i → bt s (i - 1) = bt t (i - 1))) : bt g i = bt u i := by
 have e : bt g i = 1 ↔ bt u i = 1 := by
  rw [hg i, hu i]
  constructor
  ·rintro (⟨h1, h2⟩ | ⟨h1, h2⟩)
   ·exact .inl ⟨h1, by rw [← h.1 h1]; exact h2⟩
   ·exact .inr ⟨h1, by rw [← h.2 h1]; exact h2⟩
  ·rintro (⟨h1, h2⟩ | ⟨h1, h2⟩)
   ·exact .inl ⟨h1, by rw [h.1 h1]; exact h2⟩
   ·exact .inr ⟨h1, by rw [h.2 h1]; exact h2⟩
 have h1 := qcn g i
 have h2 := qcn u i
 by_cases h3 : bt u i = 1
 ·rw [h3, e.2 h3]
 ·have h4 : ¬ bt g i = 1 := fun h5 => h3 (e.1 h5)
  omega
theorem Rsd.lex {b s t g u : Nat} (hg : Rsd b s g) (hu : Rsd b t u) (h : Lex s t) : Lex g u := by
 obtain ⟨i, hlow, h1, h2⟩ := h
 by_cases hi : i < b
 ·refine ⟨i, fun j hj => hg.same hu ⟨fun _ => hlow j hj, fun h => by omega⟩, (hg i).2 (.inl ⟨hi, h1⟩), qao (fun e => ?_)⟩
  rcases (hu i).1 e with h3 | h3
  ·omega
  ·omega
 ·refine ⟨i + 1, fun j hj => hg.same hu ⟨fun h => hlow j (by omega), fun h => hlow (j - 1) (by omega)⟩, (hg (i + 1)).2 (.inr ⟨by omega, h1⟩), qao (fun e => ?_)⟩
  rcases (hu (i + 1)).1 e with h3 | h3
  ·omega
  ·have : i + 1 - 1 = i := by omega
   rw [this] at h3
   omega
theorem rsd_ex {b t n : Nat} (hb : b < n) (ht : t < 2 ^ n) (h : ¬ bt t b = 1) : ∃ s, s < 2 ^ (n - 1) ∧ Rsd b s t := by
 refine ⟨(t % 2 ^ b) ||| (t / 2 ^ (b + 1)) * 2 ^ b, ?_, ?_⟩
 ·refine Nat.or_lt_two_pow (Nat.lt_of_lt_of_le (Nat.mod_lt _ (Nat.two_pow_pos b)) (Nat.pow_le_pow_right (by decide) (by omega))) ?_
  have h1 : t / 2 ^ (b + 1) < 2 ^ (n - 1 - b) := by
   rw [Nat.div_lt_iff_lt_mul (Nat.two_pow_pos _), ← Nat.pow_add, show n - 1 - b + (b + 1) = n by omega]
   exact ht
  have h2 := (Nat.mul_lt_mul_right (Nat.two_pow_pos b)).2 h1
  rw [← Nat.pow_add, show n - 1 - b + b = n - 1 by omega] at h2
  exact h2
 ·have hq : ∀ j, bt ((t % 2 ^ b) ||| (t / 2 ^ (b + 1)) * 2 ^ b) j = 1 ↔ (j < b ∧ bt t j = 1) ∨ (b ≤ j ∧ bt t (j + 1) = 1) := fun j => by
   rw [qbj, qm9]
   have e : bt ((t / 2 ^ (b + 1)) * 2 ^ b) j = 1 ↔ b ≤ j ∧ bt t (j + 1) = 1 := by
    rw [← Nat.shiftLeft_eq, qar, Nat.testBit_shiftLeft, qar, Nat.testBit_div_two_pow]
    simp only [Bool.and_eq_true, decide_eq_true_eq]
    constructor
    ·rintro ⟨h1, h2⟩
     rw [show j - b + (b + 1) = j + 1 by omega] at h2
     exact ⟨h1, h2⟩
    ·rintro ⟨h1, h2⟩
     refine ⟨h1, ?_⟩
     rw [show j - b + (b + 1) = j + 1 by omega]
     exact h2
   rw [e]
  intro i
  rw [hq i, hq (i - 1)]
  constructor
  ·intro h1
   rcases Nat.lt_trichotomy i b with h2 | h2 | h2
   ·exact .inl ⟨h2, .inl ⟨h2, h1⟩⟩
   ·subst h2; exact (h h1).elim
   ·refine .inr ⟨h2, .inr ⟨by omega, ?_⟩⟩
    rw [show i - 1 + 1 = i by omega]
    exact h1
  ·rintro (⟨h1, (h2 | h2)⟩ | ⟨h1, (h2 | h2)⟩)
   ·exact h2.2
   ·omega
   ·omega
   ·rw [show i - 1 + 1 = i by omega] at h2
    exact h2.2
/-- The sets that others tells: all of the size that have not b, each once. -/
structure OthA (n b k C : Nat) (f ix G : Nat → Nat) : Prop where
 all : AllF ((n : Int) - 1) (k : Int) C f ix
 cnt : C = bin (n - 1) k
 is : ∀ j, j < C → OthG b (f j) (G j)
 lt : ∀ j, j < C → G j < 2 ^ n
 none : ∀ j, j < C → ¬ bt (G j) b = 1
 size : ∀ j, j < C → cn (G j) n = k
 ord : ∀ i j, i < j → j < C → pla (G i) n < pla (G j) n
 every : ∀ t, t < 2 ^ n → ¬ bt t b = 1 → cn t n = k → ∃ j, j < C ∧ G j = t
theorem oth_all (n b k : Nat) (hn : n ≤ 64) (hb : b < n) (hk : k < n) : ∃ (C : Nat) (f ix G : Nat → Nat), OthA n b k C f ix G := by
 obtain ⟨m, rfl⟩ : ∃ m, n = m + 1 := ⟨n - 1, by omega⟩
 have hp := bin_pos m k (by omega)
 have e1 : ((m + 1 : Nat) : Int) - 1 = (m : Int) := by omega
 have h63 : ∀ j, aset m k j < 9223372036854775808 := fun j => Nat.lt_of_lt_of_le (qc8 m k j) (Nat.pow_le_pow_right (n := 2) (j := 63) (by decide) (by omega))
 have hex : ∀ j, ∃ g, OthG b (aset m k j) g ∧ Rsd b (aset m k j) g := fun j => by
  obtain ⟨z, z1, lo, hi, h2, g, q1, q2, q3, q4, q5, q6, q7⟩ := oth_ops (h63 j) (show b < 64 by omega)
  exact ⟨g, ⟨z, z1, lo, hi, h2, q1, q2, q3, q4, q5, q6⟩, q7⟩
 obtain ⟨G, hG⟩ := Classical.skolem.mp hex
 have hcn : ∀ j, j < bin m k → cn (G j) (m + 1) = k := fun j hj => by
  have h1 := (hG j).2.num (m - b)
  rw [show b + (m - b) = m by omega] at h1
  rw [h1]
  exact (qbl m k j hj).1
 refine ⟨bin m k, aset m k, fun s => pla s m, G, ?_, rfl, fun j _ => (hG j).1, fun j _ => (hG j).2.lt hb (qc8 m k j), fun j _ => (hG j).2.none, fun j hj => hcn j hj, fun i j hij hj => ?_, fun t ht htb htn => ?_⟩
 ·rw [e1]
  refine ⟨fun j hj => (qbl m k j hj).2, fun h => by omega, fun _ w => jat_ok m k 0 w (by omega) (by omega) hp, fun j hj w => ?_, fun j hj w => ?_⟩
  ·have h1 := qif m (aset m k j) w (by omega) (qc8 m k j)
   rw [qgi hj] at h1
   exact h1
  ·have h1 := qif m (aset m k j) w (by omega) (qc8 m k j)
   rw [qgj hj] at h1
   exact h1
 ·refine qmx (m + 1) _ _ ((hG i).2.lt hb (qc8 m k i)) ((hcn i (by omega)).trans (hcn j hj).symm) ((hG i).2.lex (hG j).2 ?_)
  have pi := qbl m k i (by omega)
  have pj := qbl m k j hj
  have hne : aset m k i ≠ aset m k j := fun e => by
   have h1 := pi.2
   rw [e, pj.2] at h1
   omega
  rcases qmy hne with h1 | h1
  ·exact h1
  ·have h2 := qmx m _ _ (qc8 m k j) (pj.1.trans pi.1.symm) h1
   rw [pi.2, pj.2] at h2
   omega
 ·obtain ⟨s, hs, hr⟩ := rsd_ex hb ht htb
  have h1 := hr.num (m - b)
  rw [show b + (m - b) = m by omega, htn] at h1
  have h2 := qhu m s
  rw [← h1] at h2
  have h3 := qcx m s hs
  rw [← h1] at h3
  refine ⟨pla s m, h2, qfh (fun i => ?_)⟩
  rw [(hG (pla s m)).2 i, h3, hr i]
open Go.RowKit Go.Shelf
/-- The sets of the search for b among r rows: those of size k are G k 0 .. G k (C k - 1). -/
def qex (r b : Nat) (C : Nat → Nat) (f ix G : Nat → Nat → Nat) : Prop := ∀ k, k < r → OthA r b k (C k) (f k) (ix k) (G k)
theorem qiz (r b : Nat) (hr : r ≤ 64) (hb : b < r) : ∃ (C : Nat → Nat) (f ix G : Nat → Nat → Nat), qex r b C f ix G := by
 have h : ∀ k, ∃ x : Nat × (Nat → Nat) × (Nat → Nat) × (Nat → Nat), k < r → OthA r b k x.1 x.2.1 x.2.2.1 x.2.2.2 := fun k => by
  by_cases hk : k < r
  ·obtain ⟨C, f, ix, G, h⟩ := oth_all r b k hr hb hk
   exact ⟨(C, f, ix, G), fun _ => h⟩
  ·exact ⟨(0, id, id, id), fun h => absurd h hk⟩
 obtain ⟨x, hx⟩ := Classical.skolem.mp h
 exact ⟨fun k => (x k).1, fun k => (x k).2.1, fun k => (x k).2.2.1, fun k => (x k).2.2.2, fun k hk => hx k hk⟩
/-- How many sets stand ahead of those of size k. -/
def sm19 (C : Nat → Nat) : Nat → Nat
 | 0 => 0
 | k + 1 => sm19 C k + C k
/-- No set ahead of the place j among those of size k repairs. -/
def NoneB (M : Nat → Nat → Nat) (r b : Nat) (C : Nat → Nat) (G : Nat → Nat → Nat) (k j : Nat) : Prop := ∀ k' j', (k' < k ∧ j' < C k') ∨ (k' = k ∧ j' < j) → ¬ SS M r (G k' j') (M b)
theorem NoneB.zero (M : Nat → Nat → Nat) (r b : Nat) (C : Nat → Nat) (G : Nat → Nat → Nat) : NoneB M r b C G 0 0 := fun k' j' h => by omega
theorem NoneB.step {M : Nat → Nat → Nat} {r b : Nat} {C : Nat → Nat} {G : Nat → Nat → Nat} {k j : Nat} (h : NoneB M r b C G k j) (hn : ¬ SS M r (G k j) (M b)) : NoneB M r b C G k (j + 1) := fun k' j' hh => by
 rcases hh with h1 | ⟨h1, h2⟩
 ·exact h k' j' (.inl h1)
 ·by_cases e : j' = j
  ·rw [h1, e]; exact hn
  ·exact h k' j' (.inr ⟨h1, by omega⟩)
theorem NoneB.size {M : Nat → Nat → Nat} {r b : Nat} {C : Nat → Nat} {G : Nat → Nat → Nat} {k : Nat} (h : NoneB M r b C G k (C k)) : NoneB M r b C G (k + 1) 0 := fun k' j' hh => by
 rcases hh with ⟨h1, h2⟩ | ⟨h1, h2⟩
 ·by_cases e : k' = k
  ·rw [e] at h2 ⊢; exact h k j' (.inr ⟨rfl, h2⟩)
  ·exact h k' j' (.inl ⟨by omega, h2⟩)
 ·omega
theorem qdd {t b r : Nat} (hb : b < r) (h : ¬ bt t b = 1) : cn t r < r := by
 have h1 := qis hb h
 have h2 := qb0 r (t ||| 2 ^ b)
 omega
/-- Of the sets that repair none is ahead. -/
theorem NoneB.least {M : Nat → Nat → Nat} {r b : Nat} {C : Nat → Nat} {f ix G : Nat → Nat → Nat} {k j : Nat} (O : qex r b C f ix G) (hb : b < r) (h : NoneB M r b C G k j) (hj : j < C k) (hk : k < r) {t : Nat} (ht : t < 2 ^ r) (htb : ¬ bt t b = 1) (hs : SS M r t (M b)) :
  k ≤ cn t r ∧ (cn t r = k → pla (G k j) r ≤ pla t r) := by
 obtain ⟨q, hq⟩ : ∃ q, cn t r = q := ⟨_, rfl⟩
 have hqr := qdd hb htb
 rw [hq] at hqr ⊢
 obtain ⟨j', hj', rfl⟩ := (O q hqr).every t ht htb hq
 refine ⟨?_, fun e => ?_⟩
 ·by_cases hl : q < k
  ·exact absurd hs (h _ j' (.inl ⟨hl, hj'⟩))
  ·omega
 ·subst e
  by_cases hl : j' < j
  ·exact absurd hs (h q j' (.inr ⟨rfl, hl⟩))
  ·by_cases e2 : j' = j
   ·rw [e2]; exact Nat.le_refl _
   ·exact Nat.le_of_lt ((O q hk).ord j j' (by omega) hj')
/-- If any set repairs, the search does not go through all sets in vain. -/
theorem NoneB.end {M : Nat → Nat → Nat} {r b : Nat} {C : Nat → Nat} {f ix G : Nat → Nat → Nat} (O : qex r b C f ix G) (hb : b < r) (h : NoneB M r b C G r 0) {t : Nat} (ht : t < 2 ^ r) (htb : ¬ bt t b = 1) : ¬ SS M r t (M b) := fun hs => by
 have hc := qdd hb htb
 obtain ⟨j', hj', e⟩ := (O (cn t r) hc).every t ht htb rfl
 exact h (cn t r) j' (.inl ⟨hc, hj'⟩) (by rw [e]; exact hs)
/-- What search answers. -/
def SrP (M : Nat → Nat → Nat) (r b : Nat) (C : Nat → Nat) (G : Nat → Nat → Nat) (x : Nat) (v : Bool) (e : Nat) : Prop :=
 (x = 0 ∧ v = false ∧ e = 0 ∧ ∀ t, t < 2 ^ r → ¬ bt t b = 1 → ¬ SS M r t (M b)) ∨
 (v = true ∧ e = 0 ∧ ∃ k j, k < r ∧ j < C k ∧ x = G k j ∧ sm19 C k + j < 16384 ∧ SS M r x (M b) ∧ NoneB M r b C G k j) ∨
 (x = 0 ∧ v = false ∧ e = 4 ∧ ∃ k j, k < r ∧ j < C k ∧ sm19 C k + j = 16384 ∧ NoneB M r b C G k j ∧ ∃ t, t < 2 ^ r ∧ ¬ bt t b = 1 ∧ SS M r t (M b))
/-- What all others don't repair no set of others does. -/
theorem qmz {M : Nat → Nat → Nat} (hM : El2 M) {r b A : Nat} (hA : ∀ i, i < r → (bt A i = 1 ↔ i ≠ b)) (h : ¬ SS M r A (M b)) : ∀ t, t < 2 ^ r → ¬ bt t b = 1 → ¬ SS M r t (M b) := fun t _ htb hs =>
 h (hs.sub hM (fun i hi hb => (hA i hi).2 (fun e => htb (by rw [← e]; exact hb))))
open Go.RowKit Go.Shelf
attribute [local go_sem] Oper.semAt_some
/-- search's variables: the matrix, the row, the three results. -/
structure SrV (w : World) (B r c n k b : Nat) (a : Option Addr) (x : Nat) (v : Bool) (e : Nat) : Prop where
 m : Vr w B (.int .i64 (r : Int)) (.int .i64 (c : Int)) (.slice a n k)
 b : Cl w (B + 1) (.int .i64 (b : Int)) 3
 x : Cl w (B + 1 + 1) (.int .u64 (x : Int)) 26
 v : Cl w (B + 1 + 1 + 1) (.bool v) 4
 e : Cl w (B + 1 + 1 + 1 + 1) (.int .i64 (e : Int)) 27
theorem SrV.later {w w' : World} {B r c n k b : Nat} {a : Option Addr} {x : Nat} {v : Bool} {e : Nat} (h : SrV w B r c n k b a x v e) (hb : Below w.heap.size w w') : SrV w' B r c n k b a x v e :=
 ⟨h.m.later hb, h.b.later hb, h.x.later hb, h.v.later hb, h.e.later hb⟩
theorem SrV.new (w : World) (r c n k b : Nat) (a : Option Addr) : ∃ wb, wb = ((((w.alloc (.cells #[.int .i64 (r : Int), .int .i64 (c : Int), .slice a n k] 24)).alloc (.cells #[.int .i64 (b : Int)] 3)).alloc (.cells #[.int .u64 0] 26)).alloc (.cells #[.bool false] 4)).alloc (.cells #[.int .i64 0] 27) ∧ SrV wb w.heap.size r c n k b a 0 false 0 ∧ Below w.heap.size w wb ∧ wb.heap.size = w.heap.size + 5 := by
 refine ⟨_, rfl, ⟨?_, ?_, ?_, ?_, ?_⟩, ?_, by simp⟩
 ·exact ((((Vr.new w _ _ _).later (qa1 _ _)).later (qa1 _ _)).later (qa1 _ _)).later (qa1 _ _)
 ·have h := Cl.new (w.alloc (.cells #[.int .i64 (r : Int), .int .i64 (c : Int), .slice a n k] 24)) (.int .i64 (b : Int)) 3
  rw [World.size_alloc] at h
  exact ((h.later (qa1 _ _)).later (qa1 _ _)).later (qa1 _ _)
 ·have h := Cl.new ((w.alloc (.cells #[.int .i64 (r : Int), .int .i64 (c : Int), .slice a n k] 24)).alloc (.cells #[.int .i64 (b : Int)] 3)) (.int .u64 0) 26
  rw [World.size_alloc, World.size_alloc] at h
  exact (h.later (qa1 _ _)).later (qa1 _ _)
 ·have h := Cl.new (((w.alloc (.cells #[.int .i64 (r : Int), .int .i64 (c : Int), .slice a n k] 24)).alloc (.cells #[.int .i64 (b : Int)] 3)).alloc (.cells #[.int .u64 0] 26)) (.bool false) 4
  rw [World.size_alloc, World.size_alloc, World.size_alloc] at h
  exact h.later (qa1 _ _)
 ·have h := Cl.new ((((w.alloc (.cells #[.int .i64 (r : Int), .int .i64 (c : Int), .slice a n k] 24)).alloc (.cells #[.int .i64 (b : Int)] 3)).alloc (.cells #[.int .u64 0] 26)).alloc (.cells #[.bool false] 4)) (.int .i64 0) 27
  rw [World.size_alloc, World.size_alloc, World.size_alloc, World.size_alloc] at h
  exact h
 ·exact qa0 (qa0 (qa0 (qa0 (qa1 _ _) (qa1 _ _)) (qa1 _ _)) (qa1 _ _)) (qa1 _ _)
theorem SrV.put {w : World} {B r c n k b : Nat} {a : Option Addr} {x : Nat} {v : Bool} {e : Nat} (h : SrV w B r c n k b a x v e) (x' : Nat) (v' : Bool) (e' : Nat) :
  ∃ w1 w2 w3, w1 = w.setCell ⟨B + 1 + 1, 0, none⟩ (.int .u64 (x' : Int)) ∧ w2 = w1.setCell ⟨B + 1 + 1 + 1, 0, none⟩ (.bool v') ∧ w3 = w2.setCell ⟨B + 1 + 1 + 1 + 1, 0, none⟩ (.int .i64 (e' : Int)) ∧ w1.frozen? ⟨B + 1 + 1 + 1, 0, none⟩ = false ∧ w2.frozen? ⟨B + 1 + 1 + 1 + 1, 0, none⟩ = false ∧ SrV w3 B r c n k b a x' v' e' ∧ w3.heap.size = w.heap.size ∧ (∀ B', B' ≤ B + 1 + 1 → B' ≤ w.heap.size → Below B' w w3) ∧ ∀ i, i < w.heap.size → i ≠ B + 1 + 1 → i ≠ B + 1 + 1 + 1 → i ≠ B + 1 + 1 + 1 + 1 → w3.heap[i]? = w.heap[i]? := by
 have g1 := qap w (B + 1 + 1) 0 (.int .u64 (x' : Int))
 have g2 := qap (w.setCell ⟨B + 1 + 1, 0, none⟩ (.int .u64 (x' : Int))) (B + 1 + 1 + 1) 0 (.bool v')
 have g3 := qap ((w.setCell ⟨B + 1 + 1, 0, none⟩ (.int .u64 (x' : Int))).setCell ⟨B + 1 + 1 + 1, 0, none⟩ (.bool v')) (B + 1 + 1 + 1 + 1) 0 (.int .i64 (e' : Int))
 have n1 : ∀ i j : Nat, i ≠ j → (some i : Option Nat) ≠ some j := fun i j h e => h (Option.some.inj e)
 have v1 := h.v.kept g1 (n1 _ _ (by omega))
 have e1 := h.e.kept g1 (n1 _ _ (by omega))
 have x1 := h.x.set (.int .u64 (x' : Int))
 have v2 := v1.set (.bool v')
 have e2 := e1.kept g2 (n1 _ _ (by omega))
 have x2 := x1.kept g2 (n1 _ _ (by omega))
 have e3 := e2.set (.int .i64 (e' : Int))
 refine ⟨_, _, _, rfl, rfl, rfl, v1.free, e2.free, ⟨((h.m.kept g1 (by omega)).kept g2 (by omega)).kept g3 (by omega), ((h.b.kept g1 (n1 _ _ (by omega))).kept g2 (n1 _ _ (by omega))).kept g3 (n1 _ _ (by omega)), x2.kept g3 (n1 _ _ (by omega)), v2.kept g3 (n1 _ _ (by omega)), e3⟩, by simp, fun B' hB hw => ?_, fun i hi h2 h3 h4 => ?_⟩
 ·have s1 := g1.size
  have s2 := g2.size
  exact ((jbelow g1 hw (fun g e => by have := Option.some.inj e; omega)).trans (jbelow g2 (by omega) (fun g e => by have := Option.some.inj e; omega))).trans (jbelow g3 (by omega) (fun g e => by have := Option.some.inj e; omega))
 ·rw [g3.block i (by simpa using hi) (n1 _ _ h4), g2.block i (by simpa using hi) (n1 _ _ h3), g1.block i hi (n1 _ _ h2)]
/-- All rows but b, as search makes them. -/
theorem all_but {r b : Nat} (hr : r ≤ 64) (hb : b < r) : ∃ A z D : Nat, 2 ^ r - 1 = A ∧ IntKind.u64.wrap (2 ^ b) = (z : Int) ∧ bits .andNot .u64 (A : Int) (z : Int) = (D : Int) ∧ D < 2 ^ r ∧ ∀ i, i < r → (bt D i = 1 ↔ i ≠ b) := by
 have hp := Nat.two_pow_pos r
 have hA : 2 ^ r - 1 < 2 ^ r := by omega
 have h64 : 2 ^ r - 1 < 2 ^ 64 := Nat.lt_of_lt_of_le hA (Nat.pow_le_pow_right (by decide) hr)
 refine ⟨2 ^ r - 1, 2 ^ b, rem (2 ^ r - 1) b, rfl, qf1 b (by omega), qmf hr hA hb rfl rfl, Nat.lt_of_le_of_lt Nat.and_le_left hA, fun i hi => ?_⟩
 rw [qdc h64 (by omega) i]
 have h1 : bt (2 ^ r - 1) i = 1 := by
  rw [qar, Nat.testBit_two_pow_sub_one]
  exact decide_eq_true hi
 exact ⟨fun h => h.2, fun h => ⟨h1, h⟩⟩
open Go.RowKit Go.Shelf
/-- A first least set of others that repairs. -/
structure LstS (M : Nat → Nat → Nat) (r b s : Nat) : Prop where
 lt : s < 2 ^ r
 none : ¬ bt s b = 1
 is : SS M r s (M b)
 least : ∀ t, t < 2 ^ r → ¬ bt t b = 1 → SS M r t (M b) → cn s r ≤ cn t r ∧ (cn t r = cn s r → pla s r ≤ pla t r)
theorem LstS.one {M : Nat → Nat → Nat} {r b s t : Nat} (h : LstS M r b s) (h2 : LstS M r b t) : cn s r = cn t r ∧ pla s r = pla t r := by
 obtain ⟨a1, a2⟩ := h.least t h2.lt h2.none h2.is
 obtain ⟨b1, b2⟩ := h2.least s h.lt h.none h.is
 have e : cn s r = cn t r := by omega
 have := a2 e.symm
 have := b2 e
 exact ⟨e, by omega⟩
theorem LstS.free {M : Nat → Nat → Nat} (hM : El2 M) {r b s : Nat} (h : LstS M r b s) : FreeS M r s := by
 obtain ⟨p, hp⟩ : ∃ p, BaS M r s p := qmr _ r
 obtain ⟨hf, hsp⟩ := hp.free hM
 have h1 : RS M r s (cn p r) := Rk.span hf hsp
 have h2 := h1.le hM
 have h3 := (h.least p hp.1 (fun e => h.none (by
  by_cases hb : b < r
  ·exact ((hp.2 b hb).1 e).1
  ·have h4 := qci hp.1 (Nat.le_of_not_lt hb)
   omega)) (Spn.trans h.is hsp.2)).1
 have e : cn s r = cn p r := by omega
 unfold FreeS
 rw [e]
 exact h1
/-- The factors of a row: they stand in a set alone, none of them 0. -/
structure CmbS (M : Nat → Nat → Nat) (r b s : Nat) (P : Nat → Nat) : Prop where
 el : El P
 on : ∀ i, i < r → (P i ≠ 0 ↔ bt s i = 1)
 out : ∀ i, ¬ bt s i = 1 → P i = 0
 sum : ∀ j, M b j = lc P M r j
theorem lc_mk {M : Nat → Nat → Nat} {r s : Nat} {P : Nat → Nat} (h : ∀ i, ¬ bt s i = 1 → P i = 0) (j : Nat) : lc P (mk M s) r j = lc P M r j := qa4 (fun i _ => by
 by_cases hi : bt s i = 1
 ·show fm (P i) (mk M s i j) = _
  rw [qgw hi]
 ·rw [h i hi, qaa, qaa])
theorem cmbs_of {M : Nat → Nat → Nat} (hM : El2 M) {r b s : Nat} {x : Nat → Nat} (hr : r ≤ 64) (h : LstS M r b s) (hx : El x) (hy : ∀ j, M b j = lc x (fun t => M (lf s r t)) (cn s r) j) : CmbS M r b s (spr s x) := by
 have hs64 := qc7 hr h.lt
 have hout : ∀ i, ¬ bt s i = 1 → spr s x i = 0 := fun i hi => if_neg hi
 have hsum : ∀ j, M b j = lc (spr s x) (mk M s) r j := fun j => by rw [hy j, lc_spr x j r (Nat.le_refl _)]
 refine ⟨spr_el hx, fun i hi => ⟨fun hne => Classical.byContradiction (fun hn => hne (hout i hn)), fun hb => ?_⟩, hout, fun j => by rw [hsum j, lc_mk hout]⟩
 refine (circ_iff hM (h.free hM) hi hb (t := rem s i) (fun j _ => qdc hs64 (by omega) j) (spr_el hx) hsum).2 (fun hss => ?_)
 have h1 := (h.least (rem s i) (qhk h.lt) (fun e => h.none ((qdc hs64 (by omega) b).1 e).1) hss).1
 have h2 : ¬ bt (rem s i) i = 1 := fun e => ((qdc hs64 (by omega) i).1 e).2 rfl
 have h3 := qis hi h2
 rw [qhj r (qiv hr h.lt hi hb)] at h3
 omega
theorem CmbS.one {M : Nat → Nat → Nat} (hM : El2 M) {r b s : Nat} {P Q : Nat → Nat} (hr : r ≤ 64) (h : LstS M r b s) (hP : CmbS M r b s P) (hQ : CmbS M r b s Q) : ∀ i, i < r → P i = Q i := by
 intro i hi
 by_cases hb : bt s i = 1
 ·refine Classical.byContradiction (fun hne => ?_)
  have hx : El (fun t => P (lf s r t) ^^^ Q (lf s r t)) := fun t => qbd _ _ (hP.el _) (hQ.el _)
  have hspr : ∀ k, k < r → spr s (fun t => P (lf s r t) ^^^ Q (lf s r t)) k = P k ^^^ Q k := fun k hk => by
   unfold spr
   by_cases hk2 : bt s k = 1
   ·rw [if_pos hk2]
    show P (lf s r (cn s k)) ^^^ Q (lf s r (cn s k)) = _
    rw [(qgv hk hk2).2]
   ·rw [if_neg hk2, hP.out k hk2, hQ.out k hk2, Nat.xor_self]
  have h0 : ∀ j, lc (fun t => P (lf s r t) ^^^ Q (lf s r t)) (fun t => M (lf s r t)) (cn s r) j = 0 := fun j => by
   rw [← lc_spr _ j r (Nat.le_refl _), lc_mk (P := spr s (fun t => P (lf s r t) ^^^ Q (lf s r t))) (fun k hk => if_neg hk)]
   have e : lc (spr s (fun t => P (lf s r t) ^^^ Q (lf s r t))) M r j = lc (fun k => P k ^^^ Q k) M r j := qb2 (fun k hk => hspr k hk) (fun _ _ => rfl)
   rw [e, qf6 hP.el hQ.el, ← hP.sum j, ← hQ.sum j, Nat.xor_self]
  have hd := dep_ss hM hr h.lt hi hb hx h0 (by
   rw [(qgv hi hb).2]
   exact fun e => hne (qe9 e))
  exact (h.free hM).row hM hi hb (fun j _ => qdc (qc7 hr h.lt) (by omega) j) hd
 ·rw [hP.out i hb, hQ.out i hb]
/-- The same of rows with the same relations. -/
theorem LstS.ker {M N : Nat → Nat → Nat} {r b s : Nat} (hM : El2 M) (hN : El2 N) (hK : KerEq M N r) (hb : b < r) (h : LstS M r b s) : LstS N r b s :=
 ⟨h.lt, h.none, (qev hM hN hK hb).1 h.is, fun t h1 h2 h3 => h.least t h1 h2 ((qev hM hN hK hb).2 h3)⟩
theorem CmbS.ker {M N : Nat → Nat → Nat} {r b s : Nat} {P : Nat → Nat} (hM : El2 M) (hN : El2 N) (hK : KerEq M N r) (hb : b < r) (h : CmbS M r b s P) : CmbS N r b s P := by
 refine ⟨h.el, h.on, h.out, fun j => ?_⟩
 have e : ∀ (K : Nat → Nat → Nat) (_ : El2 K) j, lc (fun i => P i ^^^ dl b i) K r j = lc P K r j ^^^ K b j := fun K hK j => by
  rw [qf6 h.el (qh7 b), lc_dl hK hb]
 have h1 := (hK _ (fun i => qbd _ _ (h.el i) (qh7 b i))).1 (fun j => by rw [e M hM, ← h.sum j, Nat.xor_self]) j
 rw [e N hN] at h1
 exact (qe9 h1).symm
/-- What is known of search's answer. -/
def SrQ (M : Nat → Nat → Nat) (r b x : Nat) (v : Bool) (e : Nat) : Prop :=
 (x = 0 ∧ v = false ∧ e = 0 ∧ ∀ t, t < 2 ^ r → ¬ bt t b = 1 → ¬ SS M r t (M b)) ∨ (v = true ∧ e = 0 ∧ LstS M r b x) ∨ (x = 0 ∧ v = false ∧ e = 4)
theorem SrP.lst {M : Nat → Nat → Nat} {r b x : Nat} {v : Bool} {e : Nat} {C : Nat → Nat} {f ix G : Nat → Nat → Nat} (O : qex r b C f ix G) (hb : b < r) (h : SrP M r b C G x v e) : SrQ M r b x v e := by
 rcases h with h | ⟨h1, h2, k, j, hk, hj, rfl, _, hs, hn⟩ | ⟨h1, h2, h3, _⟩
 ·exact .inl h
 ·refine .inr (.inl ⟨h1, h2, (O k hk).lt j hj, (O k hk).none j hj, hs, fun t ht htb hss => ?_⟩)
  have h3 := hn.least O hb hj hk ht htb hss
  rw [(O k hk).size j hj]
  exact h3
 ·exact .inr (.inr ⟨h1, h2, h3⟩)
theorem SrP.ker {M N : Nat → Nat → Nat} {r b x : Nat} {v : Bool} {e : Nat} {C : Nat → Nat} {G : Nat → Nat → Nat} (hM : El2 M) (hN : El2 N) (hK : KerEq M N r) (hb : b < r) (h : SrP M r b C G x v e) : SrP N r b C G x v e := by
 have hn : ∀ k j, NoneB M r b C G k j → NoneB N r b C G k j := fun k j h1 k' j' h2 h3 => h1 k' j' h2 ((qev hM hN hK hb).2 h3)
 rcases h with ⟨h1, h2, h3, h4⟩ | ⟨h1, h2, k, j, hk, hj, h3, h4, hs, hh⟩ | ⟨h1, h2, h3, k, j, hk, hj, h4, hh, t, h5, h6, h7⟩
 ·exact .inl ⟨h1, h2, h3, fun t ht htb hss => h4 t ht htb ((qev hM hN hK hb).2 hss)⟩
 ·exact .inr (.inl ⟨h1, h2, k, j, hk, hj, h3, h4, (qev hM hN hK hb).1 hs, hn k j hh⟩)
 ·exact .inr (.inr ⟨h1, h2, h3, k, j, hk, hj, h4, hn k j hh, t, h5, h6, (qev hM hN hK hb).1 h7⟩)
open Go.RowKit Go.Shelf
theorem Cl.low {w w' : World} {b m : Nat} {v : Value} {T : TypeId} (h : Cl w b v T) (hb : b < m) (hB : Below m w w') : Cl w' b v T := by unfold Cl; rw [hB.block b hb]; exact h
theorem Vr.low {w w' : World} {b m : Nat} {x y z : Value} (h : Vr w b x y z) (hb : b < m) (hB : Below m w w') : Vr w' b x y z := by unfold Vr; rw [hB.block b hb]; exact h
theorem SrV.low {w w' : World} {B m r c n k b : Nat} {a : Option Addr} {x : Nat} {v : Bool} {e : Nat} (h : SrV w B r c n k b a x v e) (hb : B + 4 < m) (hB : Below m w w') : SrV w' B r c n k b a x v e :=
 ⟨h.m.low (by omega) hB, h.b.low (by omega) hB, h.x.low (by omega) hB, h.v.low (by omega) hB, h.e.low (by omega) hB⟩
/-- The three results are stored, one behind the other. -/
structure Put3 (w : World) (B : Nat) (X V E : Value) : Prop where
 c1 : ∃ x, w.cell? ⟨B + 1 + 1, 0, none⟩ = some x
 f1 : w.frozen? ⟨B + 1 + 1, 0, none⟩ = false
 c2 : ∃ x, (w.setCell ⟨B + 1 + 1, 0, none⟩ X).cell? ⟨B + 1 + 1 + 1, 0, none⟩ = some x
 f2 : (w.setCell ⟨B + 1 + 1, 0, none⟩ X).frozen? ⟨B + 1 + 1 + 1, 0, none⟩ = false
 c3 : ∃ x, ((w.setCell ⟨B + 1 + 1, 0, none⟩ X).setCell ⟨B + 1 + 1 + 1, 0, none⟩ V).cell? ⟨B + 1 + 1 + 1 + 1, 0, none⟩ = some x
 f3 : ((w.setCell ⟨B + 1 + 1, 0, none⟩ X).setCell ⟨B + 1 + 1 + 1, 0, none⟩ V).frozen? ⟨B + 1 + 1 + 1 + 1, 0, none⟩ = false
 p1 : (((w.setCell ⟨B + 1 + 1, 0, none⟩ X).setCell ⟨B + 1 + 1 + 1, 0, none⟩ V).setCell ⟨B + 1 + 1 + 1 + 1, 0, none⟩ E).heap[B + 1 + 1]? = some (.cells #[X] 26 (0, 0))
 p2 : (((w.setCell ⟨B + 1 + 1, 0, none⟩ X).setCell ⟨B + 1 + 1 + 1, 0, none⟩ V).setCell ⟨B + 1 + 1 + 1 + 1, 0, none⟩ E).heap[B + 1 + 1 + 1]? = some (.cells #[V] 4 (0, 0))
 p3 : (((w.setCell ⟨B + 1 + 1, 0, none⟩ X).setCell ⟨B + 1 + 1 + 1, 0, none⟩ V).setCell ⟨B + 1 + 1 + 1 + 1, 0, none⟩ E).heap[B + 1 + 1 + 1 + 1]? = some (.cells #[E] 27 (0, 0))
 size : (((w.setCell ⟨B + 1 + 1, 0, none⟩ X).setCell ⟨B + 1 + 1 + 1, 0, none⟩ V).setCell ⟨B + 1 + 1 + 1 + 1, 0, none⟩ E).heap.size = w.heap.size
 low : ∀ m, m ≤ B + 1 + 1 → m ≤ w.heap.size → Below m w (((w.setCell ⟨B + 1 + 1, 0, none⟩ X).setCell ⟨B + 1 + 1 + 1, 0, none⟩ V).setCell ⟨B + 1 + 1 + 1 + 1, 0, none⟩ E)
 high : ∀ i, B + 1 + 1 + 1 + 1 < i → i < w.heap.size → (((w.setCell ⟨B + 1 + 1, 0, none⟩ X).setCell ⟨B + 1 + 1 + 1, 0, none⟩ V).setCell ⟨B + 1 + 1 + 1 + 1, 0, none⟩ E).heap[i]? = w.heap[i]?
theorem SrV.put3 {w : World} {B r c n k b : Nat} {a : Option Addr} {x : Nat} {v : Bool} {e : Nat} (h : SrV w B r c n k b a x v e) (X V E : Value) : Put3 w B X V E := by
 have g1 := qap w (B + 1 + 1) 0 X
 have g2 := qap (w.setCell ⟨B + 1 + 1, 0, none⟩ X) (B + 1 + 1 + 1) 0 V
 have g3 := qap ((w.setCell ⟨B + 1 + 1, 0, none⟩ X).setCell ⟨B + 1 + 1 + 1, 0, none⟩ V) (B + 1 + 1 + 1 + 1) 0 E
 have n1 : ∀ i j : Nat, i ≠ j → (some i : Option Nat) ≠ some j := fun i j h e => h (Option.some.inj e)
 have v1 := h.v.kept g1 (n1 _ _ (by omega))
 have e1 := h.e.kept g1 (n1 _ _ (by omega))
 have x1 := h.x.set X
 have v2 := v1.set V
 have e2 := e1.kept g2 (n1 _ _ (by omega))
 have x2 := x1.kept g2 (n1 _ _ (by omega))
 have e3 := e2.set E
 refine ⟨⟨_, h.x.cell⟩, h.x.free, ⟨_, v1.cell⟩, v1.free, ⟨_, e2.cell⟩, e2.free, x2.kept g3 (n1 _ _ (by omega)), v2.kept g3 (n1 _ _ (by omega)), e3, by simp, fun m hB hw => ?_, fun i hi hi2 => ?_⟩
 ·have s1 := g1.size
  have s2 := g2.size
  exact ((jbelow g1 hw (fun g e => by have := Option.some.inj e; omega)).trans (jbelow g2 (by omega) (fun g e => by have := Option.some.inj e; omega))).trans (jbelow g3 (by omega) (fun g e => by have := Option.some.inj e; omega))
 ·rw [g3.block i (by simpa using hi2) (n1 _ _ (by omega)), g2.block i (by simpa using hi2) (n1 _ _ (by omega)), g1.block i hi2 (n1 _ _ (by omega))]
/-- On the way out past the marks that loops have left. -/
theorem qcq {fn : Func} {tmps : Array Value} {R : Ending → World → Prop} {F : Fence} {nn B : Nat} : ∀ (ds : List Deferred) (E : Nat) (W : World), DOk W B E ds → B ≤ W.heap.size → (∀ W', Below B W W' → LeavesIn F nn Tryz.prog fn tmps R [] .returning W') → LeavesInM F nn Tryz.prog fn tmps R ds .returning W := by
 intro ds
 induction ds with
 | nil => exact fun E W _ _ h => h W (Below.refl _ _)
 | cons d ds ih =>
  rintro E W ⟨D, rfl, hB, hE, hd, hr⟩ hs h
  have hg := grownBy_putObj' W D (.deferred none)
  refine ⟨by simp, .inl ⟨D, _, rfl, run_takeDeferred hd, ih D _ (hr.kept (fun i h1 h2 h3 => World.putObj_heap_other (by omega))) (by simpa using hs) (fun W' hW' => h W' ?_)⟩⟩
  exact (jbelow hg hs (fun g e => by have := Option.some.inj e; omega)).trans hW'
/-- What holds within search's loops. -/
structure Sr19 (w W : World) (m L r c n k b q x : Nat) (v : Bool) (e : Nat) (a : Option Addr) (Bd Ed : Nat) (ds : List Deferred) : Prop where
 below : Below w.heap.size w W
 v : SrV W w.heap.size r c n k b a x v e
 l : Cl W L (.int .i64 (q : Int)) 3
 sz : m ≤ W.heap.size
 d : DOk W Bd Ed ds
theorem Sr19.low {w W W' : World} {m0 m L r c n k b q x : Nat} {v : Bool} {e : Nat} {a : Option Addr} {Bd Ed : Nat} {ds : List Deferred} (h : Sr19 w W m0 L r c n k b q x v e a Bd Ed ds) (h1 : w.heap.size + 4 < m) (hL : L < m) (hE : Ed ≤ m) (hB : Below m W W') : Sr19 w W' m0 L r c n k b q x v e a Bd Ed ds :=
 ⟨h.below.trans (hB.mono (by omega)), h.v.low h1 hB, h.l.low hL hB, Nat.le_trans h.sz hB.size, h.d.kept (fun i _ h2 _ => hB.block i (by omega))⟩
theorem Sr19.up {w W : World} {m0 m L r c n k b q x : Nat} {v : Bool} {e : Nat} {a : Option Addr} {Bd Ed : Nat} {ds : List Deferred} (h : Sr19 w W m0 L r c n k b q x v e a Bd Ed ds) (hm : m ≤ W.heap.size) : Sr19 w W m L r c n k b q x v e a Bd Ed ds := ⟨h.below, h.v, h.l, hm, h.d⟩
theorem Sr19.put {w W : World} {m L r c n k b q x : Nat} {v : Bool} {e : Nat} {a : Option Addr} {Bd Ed : Nat} {ds : List Deferred} (h : Sr19 w W m L r c n k b q x v e a Bd Ed ds) (h4 : w.heap.size + 4 < L) (hB : L < Bd) (q' : Nat) : Sr19 w (W.setCell ⟨L, 0, none⟩ (.int .i64 (q' : Int))) m L r c n k b q' x v e a Bd Ed ds := by
 have hg := qap W L 0 (.int .i64 (q' : Int))
 have hn : ∀ i, i ≠ L → (some L : Option Nat) ≠ some i := fun i h e => h (Option.some.inj e).symm
 refine ⟨h.below.trans (jbelow hg h.below.size (fun g e => by have := Option.some.inj e; omega)), ⟨h.v.m.kept hg (by omega), h.v.b.kept hg (hn _ (by omega)), h.v.x.kept hg (hn _ (by omega)), h.v.v.kept hg (hn _ (by omega)), h.v.e.kept hg (hn _ (by omega))⟩, h.l.set _, by simpa using h.sz, h.d.kept (fun i h1 _ h3 => hg.block i h3 (fun e => by have := Option.some.inj e; omega))⟩
theorem Sr19.put3 {w W : World} {m L r c n k b q x : Nat} {v : Bool} {e : Nat} {a : Option Addr} {Bd Ed : Nat} {ds : List Deferred} (h : Sr19 w W m L r c n k b q x v e a Bd Ed ds) (h4 : w.heap.size + 4 < L) (hB : L < Bd) (_ : Ed ≤ m) (_ : m ≤ W.heap.size) (x' : Nat) (v' : Bool) (e' : Nat) :
  Sr19 w (((W.setCell ⟨w.heap.size + 1 + 1, 0, none⟩ (.int .u64 (x' : Int))).setCell ⟨w.heap.size + 1 + 1 + 1, 0, none⟩ (.bool v')).setCell ⟨w.heap.size + 1 + 1 + 1 + 1, 0, none⟩ (.int .i64 (e' : Int))) m L r c n k b q x' v' e' a Bd Ed ds := by
 have P := h.v.put3 (.int .u64 (x' : Int)) (.bool v') (.int .i64 (e' : Int))
 have hlt := h.l.lt
 have lw := P.low (w.heap.size + 1 + 1) (Nat.le_refl _) (by omega)
 exact ⟨h.below.trans (lw.mono (by omega)), ⟨h.v.m.low (by omega) lw, h.v.b.low (by omega) lw, P.p1, P.p2, P.p3⟩, by unfold Cl; rw [P.high L (by omega) hlt]; exact h.l, by rw [P.size]; exact h.sz, h.d.kept (fun i h1 _ h3 => P.high i (by omega) h3)⟩
open Go.RowKit Go.Shelf
attribute [local go_sem] Oper.semAt_some
theorem cn_mon19 (s a : Nat) : ∀ d, cn s a ≤ cn s (a + d) := by
 intro d
 induction d with
 | zero => exact Nat.le_refl _
 | succ d ih => show cn s a ≤ cn s (a + d + 1); rw [qai]; omega
theorem qn0 {s r i t : Nat} (h1 : i < t) (h2 : t < cn s r) : lf s r i < lf s r t := by
 have a := (qal (show i < cn s r by omega)).2.2
 have b := (qal h2).2.2
 refine Classical.byContradiction (fun hn => ?_)
 have h3 := cn_mon19 s (lf s r t) (lf s r i - lf s r t)
 rw [show lf s r t + (lf s r i - lf s r t) = lf s r i by omega] at h3
 omega
theorem pp_spr {s r : Nat} (x : Nat → Nat) {i : Nat} (hi : i < r) : pp (lf s r) (cn s r) x i = spr s x i := by
 unfold spr
 by_cases hb : bt s i = 1
 ·obtain ⟨h1, h2⟩ := qgv hi hb
  rw [if_pos hb]
  have h3 := pp_at (p := lf s r) (k := cn s r) (fun a b h h' => qn0 h h') x h1
  rw [h2] at h3
  exact h3
 ·rw [if_neg hb]
  exact qad (fun t ht => if_neg (fun e => hb (by rw [← e]; exact (qal ht).2.1)))
theorem lplaced (w : World) (r m nd fd : Nat) (na fa : Option Addr) (q x : Nat → Nat) (hr : r ≤ 64) (hm : m ≤ 64) (hq : ∀ i, i < m → q i < r) (up : ∀ i t, i < t → t < m → q i < q t) (hn : Il w na m (fun i => (q i : Int))) (hx : Sl w fa m x) :
  Calls Tryz.prog 32 #[.int .i64 (r : Int), .slice na m nd, .slice fa m fd] w fun e w' => ∃ g, e = .returned (.slice (some ⟨g, 0, none⟩) r r) ∧ RowAt w' g 5 r (pp q m x) ∧ w.heap.size ≤ g ∧ Below w.heap.size w w' := by
 have HN : Hid (Il w na m (fun i => (q i : Int))) := hn
 have HX : Hid (Sl w fa m x) := hx
 have HQ : Hid (∀ i, i < m → q i < r) := hq
 have HU : Hid (∀ i t, i < t → t < m → q i < q t) := up
 obtain ⟨i0, hi0, hz0, hz1, hz2⟩ := info_parts qee
 have hml : r ≤ maxLen := by unfold maxLen; omega
 clear hq up hn hx
 go_enter Tryz.func32, Tryz.ntmps32
 go_wp2_with (at_make; refine wpList_make_full _ rfl _ _ 22 rfl w.heap.size 5 i0 (.int .u8 0) 1 Tryz.underlying22 hi0 hz0 hz1 .i64 .i64 _ _ r rfl rfl rfl rfl (by rw [hz2]; omega) hml (Nat.le_refl _) ?_; intro w7 hown hgrow; have HR7 : Hid (RowAt w7 w.heap.size 5 r (fun _ => 0)) := qct hown; have HB7 : Hid (Below w.heap.size w w7) := qa8.mp hgrow; clear hown hgrow)
 go_loopw [14] (fun si wi => ∃ i : Nat, i ≤ m ∧ si = .int .i64 (i : Int) ∧ RowAt wi w.heap.size 5 r (pp q i x) ∧ Below w.heap.size w wi) (fun si _ => m - (intOf si).toNat)
 case atStart => exact ⟨0, by omega, rfl, HR7.out.congr (fun l _ => rfl), HB7.out⟩
 case round =>
  clear HR7 HB7
  obtain ⟨i, hit, rfl, hRow, hB⟩ := hrel
  have HRow : Hid (RowAt wr w.heap.size 5 r (pp q i x)) := hRow
  have HB : Hid (Below w.heap.size w wr) := hB
  clear hRow hB
  by_cases hlt : i < m
  ·obtain ⟨px, po, eps, hpc⟩ := (HN.out.later HB.out) i hlt
   obtain ⟨qi, HQI⟩ : ∃ x, Hid (q i = x) := ⟨_, rfl⟩
   dsimp only at hpc
   rw [HQI.out] at hpc
   subst eps
   obtain ⟨fx, fo, efs, hfc⟩ := (HX.out.later HB.out).2 i hlt
   obtain ⟨xi, HXI⟩ : ∃ z, Hid (x i = z) := ⟨_, rfl⟩
   rw [HXI.out] at hfc
   subst efs
   have hqi : qi < r := by rw [← HQI.out]; exact HQ.out i hlt
   have p0 : (0 : Int) ≤ (i : Int) := by omega
   have p1 : (i : Int) < (m : Int) := by omega
   have p2 : (0 : Int) ≤ (qi : Int) := by omega
   have p3 : (qi : Int) < (r : Int) := by omega
   have hcl : wr.cell? ⟨w.heap.size, qi, none⟩ = some (.int .u8 ((pp q i x qi : Nat) : Int)) := HRow.out.cell qi hqi
   have hfl : wr.frozen? ⟨w.heap.size, qi, none⟩ = false := HRow.out.free qi
   go_wp2
   exact ⟨⟨i + 1, by omega, by go_num, (HRow.out.set qi xi).congr (fun l _ => by rw [← HQI.out, ← HXI.out]; exact qhe HU.out hlt x l), qa9 HB.out (qa3 _ _ _ _) (Nat.le_refl _)⟩, by simp [intOf]; omega⟩
  ·have HIT : Hid (i = m) := Nat.le_antisymm hit (by omega)
   go_wp2
   go_ret
   have ho := HRow.out
   rw [HIT.out] at ho
   exact ⟨_, rfl, ho, Nat.le_refl _, HB.out⟩
end Go.Proofs.YtblagbghpfopcaaGreat
