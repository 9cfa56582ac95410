/-
  Stage 22: pairs of terms, counted in two ways; the best one. Mathematics alone.
-/
import Derived.Test.YthdgpmanijifoaaQbbst00
import Derived.Test.YthdgpmanijifoaaQbbst19
set_option maxRecDepth 100000
set_option maxHeartbeats 16000000
namespace Go.Proofs.Ythdgpmanijifoaa
open Go.RowKit
/-- A pair: two values and a ratio. -/
abbrev Ky := Int × Int × Nat
/-- A pair and in how many nodes it is. -/
abbrev Pr := Ky × Nat
def pky (F : Fl) (n i k : Nat) : Ky := (F.of n i, F.of n k, fm (F.fc n k) (finv (F.fc n i)))
def k1 (F : Fl) (n i : Nat) (x : Ky) : Nat → Nat
 | 0 => 0
 | j + 1 => k1 F n i x j + (if pky F n i (i + 1 + j) = x then 1 else 0)
def k2 (F : Fl) (n : Nat) (x : Ky) : Nat → Nat
 | 0 => 0
 | i + 1 => k2 F n x i + k1 F n i x (F.nt n - (i + 1))
def k3 (F : Fl) (x : Ky) : Nat → Nat
 | 0 => 0
 | n + 1 => k3 F x n + k2 F n x (F.nt n)
/-- The factor of a value among terms, 0 if it is not there. -/
def byf (f : Nat → Int) (g : Nat → Nat) (v : Int) : Nat → Nat → Nat
 | _, 0 => 0
 | i, m + 1 => if f i = v then g i else byf f g v (i + 1) m
theorem qax {f : Nat → Int} {g : Nat → Nat} {v : Int} {i n : Nat} (h : i < n) (h1 : f i ≠ v) : byf f g v i (n - i) = byf f g v (i + 1) (n - (i + 1)) := by
 obtain ⟨m, e⟩ : ∃ m, n - i = m + 1 := ⟨n - i - 1, by omega⟩
 rw [e, show n - (i + 1) = m by omega, byf, if_neg h1]
theorem qco {f : Nat → Int} {g : Nat → Nat} {v : Int} {i n : Nat} (h : i < n) (h1 : f i = v) : byf f g v i (n - i) = g i := by
 obtain ⟨m, e⟩ : ∃ m, n - i = m + 1 := ⟨n - i - 1, by omega⟩
 rw [e, byf, if_pos h1]
theorem qcp (f : Nat → Int) (g : Nat → Nat) (v : Int) (n : Nat) : byf f g v n (n - n) = 0 := by rw [Nat.sub_self]; rfl
theorem byf_at {f : Nat → Int} {g : Nat → Nat} {v : Int} {n i : Nat} (hi : i < n) (hv : f i = v) (inj : ∀ a b, a < n → b < n → f a = f b → a = b) : ∀ k, k ≤ i → byf f g v (i - k) (n - (i - k)) = g i
 | 0, _ => qco hi hv
 | k + 1, hk => by
  rw [qax (by omega) (fun e => by have := inj (i - (k + 1)) i (by omega) hi (e.trans hv.symm); omega), show i - (k + 1) + 1 = i - k by omega]
  exact byf_at hi hv inj k (by omega)
theorem qbo {f : Nat → Int} {g : Nat → Nat} {v : Int} {n : Nat} (h : ∀ i, i < n → f i ≠ v) : ∀ k, k ≤ n → byf f g v (n - k) (n - (n - k)) = 0
 | 0, _ => qcp f g v n
 | k + 1, hk => by
  rw [qax (by omega) (h _ (by omega)), show n - (k + 1) + 1 = n - k by omega]
  exact qbo h k (by omega)
def byv (f : Nat → Int) (g : Nat → Nat) (v : Int) (n : Nat) : Nat := byf f g v 0 n
theorem qbp {f : Nat → Int} {g : Nat → Nat} {v : Int} {n i : Nat} (hi : i < n) (hv : f i = v) (inj : ∀ a b, a < n → b < n → f a = f b → a = b) : byv f g v n = g i := by
 have := byf_at (g := g) hi hv inj i (Nat.le_refl _)
 rw [Nat.sub_self, Nat.sub_zero] at this
 exact this
theorem qay {f : Nat → Int} {g : Nat → Nat} {v : Int} {n : Nat} (h : ∀ i, i < n → f i ≠ v) : byv f g v n = 0 := by
 have := qbo (g := g) h n (Nat.le_refl _)
 rw [Nat.sub_self, Nat.sub_zero] at this
 exact this
/-- A pair is in terms. -/
def InT (f : Nat → Int) (g : Nat → Nat) (n : Nat) (x : Ky) : Prop := byv f g x.1 n ≠ 0 ∧ byv f g x.2.1 n ≠ 0 ∧ fm (byv f g x.1 n) x.2.2 = byv f g x.2.1 n
instance (f : Nat → Int) (g : Nat → Nat) (n : Nat) (x : Ky) : Decidable (InT f g n x) := by unfold InT; exact inferInstance
/-- In how many nodes a pair is. -/
def c3 (F : Fl) (x : Ky) : Nat → Nat
 | 0 => 0
 | n + 1 => c3 F x n + (if InT (F.of n) (F.fc n) (F.nt n) x then 1 else 0)
/-- A node's terms are in order, their factors are bytes and no noughts. -/
def Nok (n : Nat) (f : Nat → Int) (g : Nat → Nat) : Prop := (∀ a b, a < n → b < n → a < b → f a < f b) ∧ ∀ a, a < n → g a ≠ 0 ∧ g a < 256
theorem Nok.inj {n : Nat} {f : Nat → Int} {g : Nat → Nat} (h : Nok n f g) (a b : Nat) (ha : a < n) (hb : b < n) (e : f a = f b) : a = b := by
 rcases Nat.lt_trichotomy a b with h1 | h1 | h1
 ·have := h.1 a b ha hb h1; omega
 ·exact h1
 ·have := h.1 b a hb ha h1; omega
theorem Nok.lt {n : Nat} {f : Nat → Int} {g : Nat → Nat} (h : Nok n f g) {a b : Nat} (ha : a < n) (hb : b < n) (e : f a < f b) : a < b := by
 rcases Nat.lt_trichotomy a b with h1 | h1 | h1
 ·exact h1
 ·subst h1; omega
 ·have := h.1 b a hb ha h1; omega
theorem TmP.nok {m : Int} {n : Nat} {f : Nat → Int} {g : Nat → Nat} (h : TmP m n f g) (hg : ∀ a, a < n → g a < 256) : Nok n f g := by
 refine ⟨?_, fun a ha => ⟨(h a ha).1, hg a ha⟩⟩
 intro a b ha hb hab
 induction b with
 | zero => omega
 | succ b ih =>
  have := (h (b + 1) hb).2.2.2 (by omega)
  simp at this
  by_cases e : a = b
  ·subst e; exact this
  ·have := ih (by omega) (by omega); omega
theorem qcq {a b r : Nat} (ha : a < 256) (hb : b < 256) (hr : r < 256) (h0 : a ≠ 0) : fm b (finv a) = r ↔ fm a r = b := by
 have hi := qac a
 have h1 := qbb a ha h0
 constructor
 ·rintro rfl
  rw [← qaj a b (finv a) ha hb, qa8 a b ha hb, qaj b a (finv a) hb ha, h1, qb2 b hb]
 ·rintro rfl
  rw [qa8 a r ha hr, qaj r a (finv a) hr ha, h1, qb2 r hr]
open Classical in
theorem k1_eq (F : Fl) (n i : Nat) (x : Ky) (inj : ∀ a b, a < F.nt n → b < F.nt n → F.of n a = F.of n b → a = b) : ∀ j, i + 1 + j ≤ F.nt n → k1 F n i x j = if ∃ k, i < k ∧ k < i + 1 + j ∧ pky F n i k = x then 1 else 0
 | 0, _ => by rw [if_neg (fun ⟨k, h1, h2, _⟩ => by omega)]; rfl
 | j + 1, h => by
  rw [k1, k1_eq F n i x inj j (by omega)]
  by_cases e : pky F n i (i + 1 + j) = x
  ·rw [if_pos e, if_neg, if_pos ⟨i + 1 + j, by omega, by omega, e⟩]
   rintro ⟨k, h1, h2, h3⟩
   have := inj k (i + 1 + j) (by omega) (by omega) (by have := congrArg (fun z : Ky => z.2.1) (h3.trans e.symm); exact this)
   omega
  ·rw [if_neg e]
   by_cases h2 : ∃ k, i < k ∧ k < i + 1 + j ∧ pky F n i k = x
   ·obtain ⟨k, h3, h4, h5⟩ := h2
    rw [if_pos ⟨k, h3, h4, h5⟩, if_pos ⟨k, h3, by omega, h5⟩]
   ·rw [if_neg h2, if_neg]
    rintro ⟨k, h3, h4, h5⟩
    by_cases e2 : k = i + 1 + j
    ·exact e (e2 ▸ h5)
    ·exact h2 ⟨k, h3, by omega, h5⟩
open Classical in
theorem k2_eq (F : Fl) (n : Nat) (x : Ky) (inj : ∀ a b, a < F.nt n → b < F.nt n → F.of n a = F.of n b → a = b) : ∀ m, m ≤ F.nt n → k2 F n x m = if ∃ i k, i < m ∧ i < k ∧ k < F.nt n ∧ pky F n i k = x then 1 else 0
 | 0, _ => by rw [if_neg (fun ⟨i, k, h1, _⟩ => by omega)]; rfl
 | m + 1, h => by
  rw [k2, k2_eq F n x inj m (by omega), k1_eq F n m x inj _ (by omega), show m + 1 + (F.nt n - (m + 1)) = F.nt n by omega]
  by_cases e : ∃ k, m < k ∧ k < F.nt n ∧ pky F n m k = x
  ·have e1 : ¬ ∃ i k, i < m ∧ i < k ∧ k < F.nt n ∧ pky F n i k = x := by
    obtain ⟨k, h1, h2, h3⟩ := e
    rintro ⟨i', k', g1, g2, g3, g4⟩
    have := inj i' m (by omega) (by omega) (by have := congrArg (fun z : Ky => z.1) (g4.trans h3.symm); exact this)
    omega
   have e2 : ∃ i k, i < m + 1 ∧ i < k ∧ k < F.nt n ∧ pky F n i k = x := by
    obtain ⟨k, h1, h2, h3⟩ := e
    exact ⟨m, k, by omega, h1, h2, h3⟩
   rw [if_pos e, if_neg e1, if_pos e2]
  ·rw [if_neg e]
   by_cases h2 : ∃ i k, i < m ∧ i < k ∧ k < F.nt n ∧ pky F n i k = x
   ·have e2 : ∃ i k, i < m + 1 ∧ i < k ∧ k < F.nt n ∧ pky F n i k = x := by
     obtain ⟨i, k, h3, h4, h5, h6⟩ := h2
     exact ⟨i, k, by omega, h4, h5, h6⟩
    rw [if_pos h2, if_pos e2]
   ·rw [if_neg h2, if_neg]
    rintro ⟨i, k, h3, h4, h5, h6⟩
    by_cases e2 : i = m
    ·subst e2; exact e ⟨k, h4, h5, h6⟩
    ·exact h2 ⟨i, k, by omega, h4, h5, h6⟩
theorem qcr (F : Fl) (n : Nat) (x : Ky) (h : Nok (F.nt n) (F.of n) (F.fc n)) (hx : x.1 < x.2.1) (hr : x.2.2 < 256) : InT (F.of n) (F.fc n) (F.nt n) x ↔ ∃ i k, i < F.nt n ∧ i < k ∧ k < F.nt n ∧ pky F n i k = x := by
 constructor
 ·rintro ⟨h1, h2, h3⟩
  have hu : ∃ i, i < F.nt n ∧ F.of n i = x.1 := by
   apply Classical.byContradiction
   intro hn
   exact h1 (qay fun i hi e => hn ⟨i, hi, e⟩)
  have hv : ∃ i, i < F.nt n ∧ F.of n i = x.2.1 := by
   apply Classical.byContradiction
   intro hn
   exact h2 (qay fun i hi e => hn ⟨i, hi, e⟩)
  obtain ⟨i, hi, ei⟩ := hu
  obtain ⟨k, hk, ek⟩ := hv
  rw [qbp hi ei h.inj] at h3
  rw [qbp hk ek h.inj] at h3
  refine ⟨i, k, hi, h.lt hi hk (by rw [ei, ek]; exact hx), hk, ?_⟩
  show (F.of n i, F.of n k, _) = x
  rw [ei, ek, (qcq (h.2 i hi).2 (h.2 k hk).2 hr (h.2 i hi).1).2 h3]
 ·rintro ⟨i, k, hi, hik, hk, rfl⟩
  show byv _ _ (F.of n i) _ ≠ 0 ∧ byv _ _ (F.of n k) _ ≠ 0 ∧ fm (byv _ _ (F.of n i) _) (fm (F.fc n k) (finv (F.fc n i))) = byv _ _ (F.of n k) _
  rw [qbp hi rfl h.inj, qbp hk rfl h.inj]
  exact ⟨(h.2 i hi).1, (h.2 k hk).1, (qcq (h.2 i hi).2 (h.2 k hk).2 (qba _ _ (h.2 k hk).2) (h.2 i hi).1).1 rfl⟩
/-- All nodes' terms are in order. -/
def Aok (F : Fl) : Prop := ∀ n, n < F.nn → Nok (F.nt n) (F.of n) (F.fc n)
theorem k3_c3 (F : Fl) (x : Ky) (h : Aok F) (hx : x.1 < x.2.1) (hr : x.2.2 < 256) : ∀ n, n ≤ F.nn → k3 F x n = c3 F x n
 | 0, _ => rfl
 | n + 1, hn => by
  have hk := h n (by omega)
  rw [k3, c3, k3_c3 F x h hx hr n (by omega), k2_eq F n x hk.inj _ (Nat.le_refl _)]
  congr 1
  by_cases e : InT (F.of n) (F.fc n) (F.nt n) x
  ·rw [if_pos e, if_pos ((qcr F n x hk hx hr).1 e)]
  ·rw [if_neg e, if_neg (fun h2 => e ((qcr F n x hk hx hr).2 h2))]
/-- What occurs has its values in order and a byte. -/
theorem k1_pos {F : Fl} {n i : Nat} {x : Ky} (h : Nok (F.nt n) (F.of n) (F.fc n)) : ∀ {j}, i + 1 + j ≤ F.nt n → 0 < k1 F n i x j → x.1 < x.2.1 ∧ x.2.2 < 256
 | 0, _, h1 => by simp [k1] at h1
 | j + 1, hj, h1 => by
  rw [k1] at h1
  by_cases e : pky F n i (i + 1 + j) = x
  ·subst e
   exact ⟨h.1 i (i + 1 + j) (by omega) (by omega) (by omega), qba _ _ (h.2 _ (by omega)).2⟩
  ·rw [if_neg e] at h1
   exact k1_pos h (by omega) h1
theorem k2_pos {F : Fl} {n : Nat} {x : Ky} (h : Nok (F.nt n) (F.of n) (F.fc n)) : ∀ {i}, i ≤ F.nt n → 0 < k2 F n x i → x.1 < x.2.1 ∧ x.2.2 < 256
 | 0, _, h1 => by simp [k2] at h1
 | i + 1, hi, h1 => by
  rw [k2] at h1
  by_cases e : 0 < k2 F n x i
  ·exact k2_pos h (by omega) e
  ·exact k1_pos (i := i) h (j := F.nt n - (i + 1)) (by omega) (by omega)
theorem qcs {F : Fl} {x : Ky} (h : Aok F) : ∀ {n}, n ≤ F.nn → 0 < k3 F x n → x.1 < x.2.1 ∧ x.2.2 < 256
 | 0, _, h1 => by simp [k3] at h1
 | n + 1, hn, h1 => by
  rw [k3] at h1
  by_cases e : 0 < k3 F x n
  ·exact qcs h (by omega) e
  ·exact k2_pos (h n (by omega)) (Nat.le_refl _) (show 0 < k2 F n x (F.nt n) by omega)
def lexlt (a b : Ky) : Prop := a.1 < b.1 ∨ a.1 = b.1 ∧ (a.2.1 < b.2.1 ∨ a.2.1 = b.2.1 ∧ a.2.2 < b.2.2)
instance (a b : Ky) : Decidable (lexlt a b) := by unfold lexlt; exact inferInstance
theorem qbe {a b c : Ky} (h1 : lexlt a b) (h2 : lexlt b c) : lexlt a c := by unfold lexlt at *; omega
theorem qbf {a b : Ky} (h : ¬ lexlt a b) : a = b ∨ lexlt b a := by
 obtain ⟨a1, a2, a3⟩ := a
 obtain ⟨b1, b2, b3⟩ := b
 by_cases e1 : a1 = b1
 ·by_cases e2 : a2 = b2
  ·by_cases e3 : a3 = b3
   ·subst e1; subst e2; subst e3; exact .inl rfl
   ·right; unfold lexlt at *; dsimp only at *; omega
  ·right; unfold lexlt at *; dsimp only at *; omega
 ·right; unfold lexlt at *; dsimp only at *; omega
theorem qb7 (a : Ky) : ¬ lexlt a a := by unfold lexlt; omega
/-- p is to be taken out rather than q. -/
def better (p q : Pr) : Prop := q.2 < p.2 ∨ p.2 = q.2 ∧ lexlt p.1 q.1
instance (a b : Pr) : Decidable (better a b) := by unfold better; exact inferInstance
theorem qai {a b c : Pr} (h1 : better a b) (h2 : better b c) : better a c := by
 unfold better at *
 rcases h1 with h1 | ⟨h1, h1'⟩
 ·rcases h2 with h2 | ⟨h2, h2'⟩
  ·left; omega
  ·left; omega
 ·rcases h2 with h2 | ⟨h2, h2'⟩
  ·left; omega
  ·exact .inr ⟨by omega, qbe h1' h2'⟩
/-- p is the best of the pairs in S, counted by c; none if each is in less than two nodes. -/
def BestP (c : Ky → Nat) (S : Ky → Prop) (p : Pr) : Prop := (p = ((0, 0, 0), 0) ∧ ∀ x, S x → c x < 2) ∨ (2 ≤ p.2 ∧ S p.1 ∧ c p.1 = p.2 ∧ ∀ x, S x → x = p.1 ∨ better p (x, c x))
theorem BestP.start {c : Ky → Nat} {S : Ky → Prop} (h : ∀ x, ¬ S x) : BestP c S ((0, 0, 0), 0) := .inl ⟨rfl, fun x hx => absurd hx (h x)⟩
theorem BestP.less {c : Ky → Nat} {S S' : Ky → Prop} {p : Pr} {y : Ky} (h : BestP c S p) (hs : ∀ x, S' x ↔ S x ∨ x = y) (h2 : c y < 2) : BestP c S' p := by
 rcases h with ⟨rfl, h1⟩ | ⟨h0, h1, h3, h4⟩
 ·refine .inl ⟨rfl, fun x hx => ?_⟩
  rcases (hs x).1 hx with h | rfl
  ·exact h1 x h
  ·exact h2
 ·refine .inr ⟨h0, (hs _).2 (.inl h1), h3, fun x hx => ?_⟩
  rcases (hs x).1 hx with h | rfl
  ·exact h4 x h
  ·exact .inr (.inl (by show c x < p.2; omega))
theorem BestP.take {c : Ky → Nat} {S S' : Ky → Prop} {p : Pr} {y : Ky} (h : BestP c S p) (hs : ∀ x, S' x ↔ S x ∨ x = y) (h2 : 2 ≤ c y) (hb : better (y, c y) p) : BestP c S' (y, c y) := by
 refine .inr ⟨h2, (hs _).2 (.inr rfl), rfl, fun x hx => ?_⟩
 rcases (hs x).1 hx with hx | rfl
 ·right
  rcases h with ⟨rfl, h1⟩ | ⟨h0, h1, h3, h4⟩
  ·exact .inl (by have := h1 x hx; show c x < c y; omega)
  ·rcases h4 x hx with rfl | h5
   ·rw [h3]; exact hb
   ·exact qai hb h5
 ·exact .inl rfl
theorem BestP.leave {c : Ky → Nat} {S S' : Ky → Prop} {p : Pr} {y : Ky} (h : BestP c S p) (hs : ∀ x, S' x ↔ S x ∨ x = y) (h2 : 2 ≤ c y) (hb : ¬ better (y, c y) p) : BestP c S' p := by
 rcases h with ⟨rfl, h1⟩ | ⟨h0, h1, h3, h4⟩
 ·exact absurd (.inl (show 0 < c y by omega)) hb
 ·refine .inr ⟨h0, (hs _).2 (.inl h1), h3, fun x hx => ?_⟩
  rcases (hs x).1 hx with hx | rfl
  ·exact h4 x hx
  ·by_cases e : x = p.1
   ·exact .inl e
   ·right
    unfold better at hb ⊢
    dsimp only at hb ⊢
    by_cases e2 : c x < p.2
    ·exact .inl e2
    ·by_cases e3 : p.2 < c x
     ·exact absurd (.inl e3) hb
     ·have e4 : c x = p.2 := by omega
      have : ¬ lexlt x p.1 := fun hl => hb (.inr ⟨e4, hl⟩)
      rcases qbf this with h6 | h6
      ·exact absurd h6 e
      ·exact .inr ⟨e4.symm, h6⟩
theorem BestP.one {c : Ky → Nat} {S : Ky → Prop} {p q : Pr} (h : BestP c S p) (h' : BestP c S q) : p = q := by
 rcases h with ⟨rfl, h1⟩ | ⟨h0, h1, h3, h4⟩
 ·rcases h' with ⟨rfl, _⟩ | ⟨g0, g1, g3, _⟩
  ·rfl
  ·have := h1 _ g1; omega
 ·rcases h' with ⟨rfl, g1⟩ | ⟨g0, g1, g3, g4⟩
  ·have := g1 _ h1; omega
  ·have e1 : p.1 = q.1 := by
    rcases h4 _ g1 with h5 | h5
    ·exact h5.symm
    ·rcases g4 _ h1 with g5 | g5
     ·exact g5
     ·exfalso
      rw [g3] at h5
      rw [h3] at g5
      have := qai h5 g5
      unfold better at this
      rcases this with h | ⟨_, h⟩
      ·omega
      ·exact qb7 _ h
   have e2 : p.2 = q.2 := by rw [← h3, ← g3, e1]
   exact Prod.ext e1 e2
theorem BestP.congr {c c' : Ky → Nat} {S S' : Ky → Prop} {p : Pr} (h : BestP c S p) (hs : ∀ x, S x ↔ S' x) (hc : ∀ x, S x → c x = c' x) : BestP c' S' p := by
 rcases h with ⟨rfl, h1⟩ | ⟨h0, h1, h3, h4⟩
 ·exact .inl ⟨rfl, fun x hx => by rw [← hc x ((hs x).2 hx)]; exact h1 x ((hs x).2 hx)⟩
 ·refine .inr ⟨h0, (hs _).1 h1, by rw [← hc _ h1]; exact h3, fun x hx => ?_⟩
  rw [← hc x ((hs x).2 hx)]
  exact h4 x ((hs x).2 hx)
theorem BestP.more {c : Ky → Nat} {S S' : Ky → Prop} {y : Ky} (h : ∃ p, BestP c S p) (hs : ∀ x, S' x ↔ S x ∨ x = y) : ∃ p, BestP c S' p := by
 obtain ⟨p, h⟩ := h
 by_cases h2 : c y < 2
 ·exact ⟨p, h.less hs h2⟩
 ·by_cases hb : better (y, c y) p
  ·exact ⟨_, h.take hs (by omega) hb⟩
  ·exact ⟨_, h.leave hs (by omega) hb⟩
theorem qbq (F : Fl) (c : Ky → Nat) (n i : Nat) {S : Ky → Prop} (h : ∃ p, BestP c S p) : ∀ j, ∃ p, BestP c (fun x => S x ∨ 0 < k1 F n i x j) p
 | 0 => by
  obtain ⟨p, h⟩ := h
  exact ⟨p, h.congr (fun x => by simp [k1]) (fun _ _ => rfl)⟩
 | j + 1 => by
  refine BestP.more (y := pky F n i (i + 1 + j)) (qbq F c n i h j) fun x => ?_
  rw [k1]
  by_cases e : pky F n i (i + 1 + j) = x
  ·rw [if_pos e]
   constructor
   ·intro _; exact .inr e.symm
   ·intro _; right; omega
  ·rw [if_neg e]
   constructor
   ·rintro (h | h)
    ·exact .inl (.inl h)
    ·exact .inl (.inr h)
   ·rintro ((h | h) | h)
    ·exact .inl h
    ·exact .inr h
    ·exact absurd h.symm e
theorem qbr (F : Fl) (c : Ky → Nat) (n : Nat) {S : Ky → Prop} (h : ∃ p, BestP c S p) : ∀ i, ∃ p, BestP c (fun x => S x ∨ 0 < k2 F n x i) p
 | 0 => by
  obtain ⟨p, h⟩ := h
  exact ⟨p, h.congr (fun x => by simp [k2]) (fun _ _ => rfl)⟩
 | i + 1 => by
  obtain ⟨p, hp⟩ := qbq F c n i (qbr F c n h i) (F.nt n - (i + 1))
  refine ⟨p, hp.congr (fun x => ?_) (fun _ _ => rfl)⟩
  rw [k2]
  constructor
  ·rintro ((h | h) | h)
   ·exact .inl h
   ·right; omega
   ·right; omega
  ·rintro (h | h)
   ·exact .inl (.inl h)
   ·by_cases e : 0 < k2 F n x i
    ·exact .inl (.inr e)
    ·right; omega
theorem qaz (F : Fl) (c : Ky → Nat) : ∀ n, ∃ p, BestP c (fun x => 0 < k3 F x n) p
 | 0 => ⟨_, BestP.start fun x h => by simp [k3] at h⟩
 | n + 1 => by
  obtain ⟨p, hp⟩ := qbr F c n (qaz F c n) (F.nt n)
  refine ⟨p, hp.congr (fun x => ?_) (fun _ _ => rfl)⟩
  rw [k3]
  omega
/-- The best pair of a flow. -/
noncomputable def bst (F : Fl) : Pr := Classical.choose (qaz F (fun x => k3 F x F.nn) F.nn)
theorem bst_spec (F : Fl) : BestP (fun x => k3 F x F.nn) (fun x => 0 < k3 F x F.nn) (bst F) := Classical.choose_spec (qaz F (fun x => k3 F x F.nn) F.nn)
theorem qct {F : Fl} {p : Pr} (h : BestP (fun x => k3 F x F.nn) (fun x => 0 < k3 F x F.nn) p) : p = bst F := h.one (bst_spec F)
theorem bst_of' {F : Fl} {p : Pr} (ha : Aok F) (h : BestP (fun x => c3 F x F.nn) (fun x => 0 < k3 F x F.nn) p) : p = bst F :=
 qct (h.congr (fun _ => Iff.rfl) fun x hx => (k3_c3 F x ha (qcs ha (Nat.le_refl _) hx).1 (qcs ha (Nat.le_refl _) hx).2 _ (Nat.le_refl _)).symm)
def tsm (nt : Nat → Nat) : Nat → Nat
 | 0 => 0
 | n + 1 => tsm nt n + nt n
def Few (F : Fl) : Prop := tsm F.nt F.nn ≤ 512 ∧ F.nn < 4096
instance (F : Fl) : Decidable (Few F) := by unfold Few; exact inferInstance
noncomputable def bstF (F : Fl) : Pr := if Few F then bst F else ((0, 0, 0), 0)
end Go.Proofs.Ythdgpmanijifoaa
