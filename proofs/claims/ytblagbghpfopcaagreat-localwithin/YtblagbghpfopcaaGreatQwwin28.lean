/-
  Echelon forms: rows swept downwards, then upwards; what they tell.
-/
import Derived.Test.YtblagbghpfopcaaGreatQwwin00
import Derived.Test.YtblagbghpfopcaaGreatQwwin07
set_option maxRecDepth 100000
set_option maxHeartbeats 16000000
namespace Go.Proofs.YtblagbghpfopcaaGreat
open Go.RowKit
/-- To the rows from a to ahead of b so much of row t is put that column j is 0. -/
def clu (M : Nat → Nat → Nat) (t j a b i l : Nat) : Nat := if a ≤ i ∧ i < b then M i l ^^^ fm (M i j) (M t l) else M i l
theorem qb5 (M : Nat → Nat → Nat) {t j a b i : Nat} (l : Nat) (h : ¬ (a ≤ i ∧ i < b)) : clu M t j a b i l = M i l := if_neg h
theorem qeo (M : Nat → Nat → Nat) {t j a b i : Nat} (l : Nat) (h : a ≤ i ∧ i < b) : clu M t j a b i l = M i l ^^^ fm (M i j) (M t l) := if_pos h
theorem qep {M : Nat → Nat → Nat} (hM : El2 M) (t j a b : Nat) : El2 (clu M t j a b) := fun i l => by unfold clu; split; exact qbd _ _ (hM _ _) (qat _ _ (hM _ _)); exact hM _ _
theorem clu_none (M : Nat → Nat → Nat) (t j a i l : Nat) : clu M t j a a i l = M i l := if_neg (by omega)
/-- A multiple of row t is put to row s. -/
def ad1 (M : Nat → Nat → Nat) (s c t i l : Nat) : Nat := rw1 M s (fun l => M s l ^^^ fm c (M t l)) i l
/-- A row is multiplied. -/
def mu1 (M : Nat → Nat → Nat) (t c i l : Nat) : Nat := rw1 M t (fun l => fm c (M t l)) i l
theorem mu1_el {M : Nat → Nat → Nat} (hM : El2 M) {t c : Nat} (hc : c < 256) : El2 (mu1 M t c) := fun i j => qkn hM (fun _ => qat _ _ hc) t i j
theorem clu_step (M : Nat → Nat → Nat) {t j a b : Nat} (hab : a ≤ b) (ht : ¬ (a ≤ t ∧ t < b)) (i l : Nat) : ad1 (clu M t j a b) b (M b j) t i l = clu M t j a (b + 1) i l := by
 unfold ad1 rw1
 by_cases e : i = b
 ·subst e
  rw [if_pos rfl]
  show clu M t j a i i l ^^^ fm (M i j) (clu M t j a i t l) = _
  rw [qb5 (i := i) M l (by omega), qb5 (i := t) M l ht, qeo M l ⟨hab, by omega⟩]
 ·rw [if_neg e]
  unfold clu
  by_cases h : a ≤ i ∧ i < b
  ·rw [if_pos h, if_pos (by omega)]
  ·rw [if_neg h, if_neg (by omega)]
theorem clu_same (M : Nat → Nat → Nat) {t j a b : Nat} (hab : a ≤ b) (h0 : M b j = 0) (i l : Nat) : clu M t j a b i l = clu M t j a (b + 1) i l := by
 unfold clu
 by_cases h : a ≤ i ∧ i < b
 ·rw [if_pos h, if_pos (by omega)]
 ·rw [if_neg h]
  by_cases e : i = b
  ·subst e
   rw [if_pos (by omega), h0, qaa, Nat.xor_zero]
  ·rw [if_neg (by omega)]
theorem qg7 {M : Nat → Nat → Nat} (hM : El2 M) {r t a b : Nat} (ht : t < r) (hout : ¬ (a ≤ t ∧ t < b)) (j : Nat) : SpEq (clu M t j a b) r M r := by
 have hE := qep hM t j a b
 have et : ∀ l, clu M t j a b t l = M t l := fun l => qb5 M l hout
 refine ⟨fun i hi => ?_, fun i hi => ?_⟩
 ·by_cases e : a ≤ i ∧ i < b
  ·exact (qcs (qab hM hi) (qb4 (hM i j) (qab hM ht))).congr (fun l => qeo M l e)
  ·exact (qab hM hi).congr (fun l => qb5 M l e)
 ·by_cases e : a ≤ i ∧ i < b
  ·refine (qcs (qab hE hi) (qb4 (hM i j) (qab hE ht))).congr (fun l => ?_)
   rw [et l, qeo M l e, Nat.xor_assoc, Nat.xor_self, Nat.xor_zero]
  ·exact (qab hE hi).congr (fun l => (qb5 M l e).symm)
/-- The columns below j are swept downwards: top pivots so far. -/
structure Ech (M : Nat → Nat → Nat) (r top j : Nat) (p : Nat → Nat) : Prop where
 tr : top ≤ r
 up : ∀ i t, i < t → t < top → p i < p t
 lt : ∀ i, i < top → p i < j
 one : ∀ i, i < top → M i (p i) = 1
 low : ∀ i l, i < top → l < p i → M i l = 0
 nul : ∀ i l, top ≤ i → i < r → l < j → M i l = 0
theorem ech_zero (M : Nat → Nat → Nat) (r : Nat) (p : Nat → Nat) : Ech M r 0 0 p := ⟨by omega, fun _ _ _ h => by omega, fun _ h => by omega, fun _ h => by omega, fun _ _ h => by omega, fun _ _ _ _ h => by omega⟩
theorem Ech.rows {M N : Nat → Nat → Nat} {r top j : Nat} {p : Nat → Nat} (h : Ech M r top j p) (e : ∀ i l, i < r → N i l = M i l) : Ech N r top j p := by
 have ht := h.tr
 exact ⟨ht, h.up, h.lt, fun i hi => by rw [e i _ (by omega)]; exact h.one i hi, fun i l hi hl => by rw [e i _ (by omega)]; exact h.low i l hi hl, fun i l h1 h2 h3 => by rw [e i _ h2]; exact h.nul i l h1 h2 h3⟩
theorem Ech.skip {M : Nat → Nat → Nat} {r top j : Nat} {p : Nat → Nat} (h : Ech M r top j p) (h0 : ∀ i, top ≤ i → i < r → M i j = 0) : Ech M r top (j + 1) p :=
 ⟨h.tr, h.up, fun i hi => by have := h.lt i hi; omega, h.one, h.low, fun i l h1 h2 h3 => by
  by_cases e : l = j
  ·rw [e]; exact h0 i h1 h2
  ·exact h.nul i l h1 h2 (by omega)⟩
/-- Several columns more. -/
theorem Ech.skips {M : Nat → Nat → Nat} {r top j j' : Nat} {p : Nat → Nat} (h : Ech M r top j p) (hj : j ≤ j') (h0 : ∀ i l, top ≤ i → i < r → j ≤ l → l < j' → M i l = 0) : Ech M r top j' p :=
 ⟨h.tr, h.up, fun i hi => by have := h.lt i hi; omega, h.one, h.low, fun i l h1 h2 h3 => by
  by_cases e : l < j
  ·exact h.nul i l h1 h2 e
  ·exact h0 i l h1 h2 (by omega) h3⟩
theorem Ech.swp {M : Nat → Nat → Nat} {r top j a b : Nat} {p : Nat → Nat} (h : Ech M r top j p) (ha : top ≤ a) (hb : top ≤ b) (har : a < r) (hbr : b < r) : Ech (swp M a b) r top j p := by
 have e : ∀ i l, i < top → Go.Proofs.YtblagbghpfopcaaGreat.swp M a b i l = M i l := fun i l hi => by unfold Go.Proofs.YtblagbghpfopcaaGreat.swp; rw [if_neg (by omega), if_neg (by omega)]
 refine ⟨h.tr, h.up, h.lt, fun i hi => by rw [e i _ hi]; exact h.one i hi, fun i l hi hl => by rw [e i _ hi]; exact h.low i l hi hl, fun i l h1 h2 h3 => ?_⟩
 unfold Go.Proofs.YtblagbghpfopcaaGreat.swp
 split
 ·exact h.nul b l hb hbr h3
 ·split
  ·exact h.nul a l ha har h3
  ·exact h.nul i l h1 h2 h3
theorem Ech.scale {M : Nat → Nat → Nat} {r top j a c : Nat} {p : Nat → Nat} (h : Ech M r top j p) (ha : top ≤ a) : Ech (mu1 M a c) r top j p := by
 have e : ∀ i l, i < top → mu1 M a c i l = M i l := fun i l hi => qhy M _ l (by omega)
 refine ⟨h.tr, h.up, h.lt, fun i hi => by rw [e i _ hi]; exact h.one i hi, fun i l hi hl => by rw [e i _ hi]; exact h.low i l hi hl, fun i l h1 h2 h3 => ?_⟩
 unfold mu1 rw1
 split
 ·rename_i e1; subst e1; show fm c (M i l) = 0; rw [h.nul i l h1 h2 h3, qa7]
 ·exact h.nul i l h1 h2 h3
/-- One pivot more. -/
theorem Ech.step {M : Nat → Nat → Nat} (hM : El2 M) {r top j : Nat} {p : Nat → Nat} (h : Ech M r top j p) (ht : top < r) (h1 : M top j = 1) : Ech (clu M top j (top + 1) r) r (top + 1) (j + 1) (fun i => if i = top then j else p i) := by
 have e : ∀ i l, i ≤ top → clu M top j (top + 1) r i l = M i l := fun i l hi => qb5 M l (by omega)
 refine ⟨by omega, fun i t h1 h2 => ?_, fun i hi => ?_, fun i hi => ?_, fun i l hi hl => ?_, fun i l h2 h3 h4 => ?_⟩
 ·show (if i = top then j else p i) < (if t = top then j else p t)
  rw [if_neg (by omega)]
  split
  ·exact h.lt i (by omega)
  ·exact h.up i t h1 (by omega)
 ·show (if i = top then j else p i) < j + 1
  split
  ·omega
  ·have := h.lt i (by omega); omega
 ·rw [e i _ (by omega)]
  show M i (if i = top then j else p i) = 1
  split
  ·rename_i e1; rw [e1]; exact h1
  ·exact h.one i (by omega)
 ·rw [e i _ (by omega)]
  have hl' : l < (if i = top then j else p i) := hl
  split at hl'
  ·rename_i e1; rw [e1]; exact h.nul top l (by omega) ht hl'
  ·exact h.low i l (by omega) hl'
 ·rw [qeo M l ⟨h2, h3⟩]
  by_cases e1 : l = j
  ·rw [e1, h1, qb6 _ (hM i j), Nat.xor_self]
  ·rw [h.nul i l (by omega) h3 (by omega), h.nul top l (by omega) ht (by omega), qa7]; rfl
/-- Swept upwards too, as far as pivot at. -/
structure Asc (M : Nat → Nat → Nat) (r top c : Nat) (p : Nat → Nat) (at' : Nat) : Prop where
 ech : Ech M r top c p
 off : ∀ s t, at' ≤ s → s < top → t < s → M t (p s) = 0
theorem Ech.asc {M : Nat → Nat → Nat} {r top c : Nat} {p : Nat → Nat} (h : Ech M r top c p) {a : Nat} (ha : top ≤ a) : Asc M r top c p a := ⟨h, fun s t h1 h2 => by omega⟩
theorem Asc.rows {M N : Nat → Nat → Nat} {r top c a : Nat} {p : Nat → Nat} (h : Asc M r top c p a) (e : ∀ i l, i < r → N i l = M i l) : Asc N r top c p a := by
 have ht := h.ech.tr
 exact ⟨h.ech.rows e, fun s t h1 h2 h3 => by rw [e t _ (by omega)]; exact h.off s t h1 h2 h3⟩
theorem Asc.one {M : Nat → Nat → Nat} {r top c : Nat} {p : Nat → Nat} (h : Asc M r top c p 1) : Asc M r top c p 0 := ⟨h.ech, fun s t h1 h2 h3 => h.off s t (by omega) h2 h3⟩
/-- Below a pivot all is 0. -/
theorem Ech.under {M : Nat → Nat → Nat} {r top c : Nat} {p : Nat → Nat} (h : Ech M r top c p) {s t : Nat} (hs : s < top) (hst : s < t) (ht : t < r) : M t (p s) = 0 := by
 by_cases e : t < top
 ·exact h.low t _ e (h.up s t hst e)
 ·exact h.nul t _ (by omega) ht (h.lt s hs)
theorem Asc.step {M : Nat → Nat → Nat} (hM : El2 M) {r top c a : Nat} {p : Nat → Nat} (h : Asc M r top c p (a + 1)) (ha : a < top) : Asc (clu M a (p a) 0 a) r top c p a := by
 have E := h.ech
 have ht := E.tr
 have hz : ∀ i, i < a → ∀ l, l < p a → clu M a (p a) 0 a i l = M i l := fun i hi l hl => by rw [qeo M l ⟨by omega, hi⟩, E.low a l ha hl, qa7, Nat.xor_zero]
 refine ⟨⟨ht, E.up, E.lt, fun i hi => ?_, fun i l hi hl => ?_, fun i l h1 h2 h3 => ?_⟩, fun s t h1 h2 h3 => ?_⟩
 ·by_cases e : i < a
  ·rw [hz i e _ (E.up i a e ha)]; exact E.one i hi
  ·rw [qb5 M _ (by omega)]; exact E.one i hi
 ·by_cases e : i < a
  ·rw [hz i e l (Nat.lt_trans hl (E.up i a e ha))]; exact E.low i l hi hl
  ·rw [qb5 M _ (by omega)]; exact E.low i l hi hl
 ·rw [qb5 M _ (by omega)]; exact E.nul i l h1 h2 h3
 ·by_cases e : s = a
  ·subst e
   rw [qeo M _ ⟨by omega, h3⟩, E.one s h2, qb6 _ (hM t _), Nat.xor_self]
  ·by_cases e2 : t < a
   ·rw [qeo M _ ⟨by omega, e2⟩, h.off s t (by omega) h2 h3, h.off s a (by omega) h2 (by omega), qa7]; rfl
   ·rw [qb5 M _ (by omega)]; exact h.off s t (by omega) h2 h3
/-- The first c columns. -/
def ct (M : Nat → Nat → Nat) (c i l : Nat) : Nat := if l < c then M i l else 0
theorem qlu {M : Nat → Nat → Nat} (hM : El2 M) (c : Nat) : El2 (ct M c) := fun i l => by unfold ct; split; exact hM _ _; decide
theorem qf2 (M : Nat → Nat → Nat) {c l : Nat} (i : Nat) (h : l < c) : ct M c i l = M i l := if_pos h
theorem qeq (M : Nat → Nat → Nat) {c l : Nat} (i : Nat) (h : c ≤ l) : ct M c i l = 0 := if_neg (by omega)
theorem Asc.rdf {M : Nat → Nat → Nat} {r top c : Nat} {p : Nat → Nat} (h : Asc M r top c p 0) : Rdf (ct M c) r top p := by
 have E := h.ech
 have hl : ∀ i, i < top → ∀ l, l ≤ p i → ct M c = ct M c ∧ l < c := fun i hi l hl => ⟨rfl, by have := E.lt i hi; omega⟩
 refine ⟨E.tr, E.up, fun i hi => by rw [qf2 M _ (E.lt i hi)]; exact E.one i hi, fun i t hi ht hne => ?_, fun i l hi hl' => by rw [qf2 M _ (hl i hi l (by omega)).2]; exact E.low i l hi hl', fun i l h1 h2 => ?_⟩
 ·rw [qf2 M _ (E.lt i hi)]
  by_cases e : t < i
  ·exact h.off i t (by omega) hi e
  ·exact E.under hi (by omega) ht
 ·by_cases e : l < c
  ·rw [qf2 M _ e]; exact E.nul i l h1 h2 e
  ·exact qeq M _ (by omega)
theorem Le.ct {M N : Nat → Nat → Nat} {r s : Nat} (h : Le M r N s) (c : Nat) : Le (ct M c) r (ct N c) s := fun i hi => (h i hi).first (c := c) (fun _ _ _ => rfl) (fun _ => rfl)
theorem SpEq.ct {M N : Nat → Nat → Nat} {r s : Nat} (h : SpEq M r N s) (c : Nat) : SpEq (ct M c) r (ct N c) s := ⟨h.1.ct c, h.2.ct c⟩
/-- What is swept downwards can be swept upwards. -/
theorem Ech.ex {M : Nat → Nat → Nat} (hM : El2 M) {r top c : Nat} {p : Nat → Nat} (h : Ech M r top c p) : ∃ N, El2 N ∧ Asc N r top c p 0 ∧ SpEq N r M r := by
 have key : ∀ d, d ≤ top → ∃ N, El2 N ∧ Asc N r top c p (top - d) ∧ SpEq N r M r := by
  intro d
  induction d with
  | zero => exact fun _ => ⟨M, hM, h.asc (by omega), SpEq.refl hM r⟩
  | succ d ih =>
   intro hd
   obtain ⟨N, hN, hA, hS⟩ := ih (by omega)
   obtain ⟨a, ha⟩ : ∃ a, top - d = a + 1 := ⟨top - d - 1, by omega⟩
   rw [ha] at hA
   have htr := h.tr
   rw [show top - (d + 1) = a by omega]
   exact ⟨_, qep hN _ _ _ _, hA.step hN (by omega), (qg7 hN (by omega) (by omega) _).trans hS⟩
 have := key top (Nat.le_refl _)
 rwa [Nat.sub_self] at this
/-- Its rank. -/
theorem Ech.rk {M : Nat → Nat → Nat} (hM : El2 M) {r top c : Nat} {p : Nat → Nat} (h : Ech M r top c p) : Rk (ct M c) r top := by
 obtain ⟨N, hN, hA, hS⟩ := h.ex hM
 exact ((hA.rdf).rk (qlu hN c)).span (hS.ct c)
end Go.Proofs.YtblagbghpfopcaaGreat
