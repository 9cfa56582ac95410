/-
  What is done to rows: the combinations stay. Elimination, column by column.
-/
import Derived.Test.YtokdejhbjoglcaaQssys00
import Derived.Test.YtokdejhbjoglcaaQssys17
set_option maxRecDepth 100000
set_option maxHeartbeats 16000000
namespace Go.Proofs.Ytokdejhbjoglcaa
/-- Row t is another one. -/
def rw1 (M : Nat → Nat → Nat) (t : Nat) (v : Nat → Nat) (i j : Nat) : Nat := if i = t then v j else M i j
theorem qe8 (M : Nat → Nat → Nat) (t : Nat) (v : Nat → Nat) (j : Nat) : rw1 M t v t j = v j := if_pos rfl
theorem qf4 (M : Nat → Nat → Nat) {t i : Nat} (v : Nat → Nat) (j : Nat) (h : i ≠ t) : rw1 M t v i j = M i j := if_neg h
theorem qgv {M : Nat → Nat → Nat} (hM : El2 M) {v : Nat → Nat} (hv : El v) (t : Nat) : El2 (rw1 M t v) := fun i j => by unfold rw1; split; exact hv j; exact hM i j
/-- Two rows change places. -/
def swp (M : Nat → Nat → Nat) (a b i j : Nat) : Nat := if i = a then M b j else if i = b then M a j else M i j
theorem qgw {M : Nat → Nat → Nat} (hM : El2 M) (a b : Nat) : El2 (swp M a b) := fun i j => by unfold swp; split; exact hM _ _; split; exact hM _ _; exact hM _ _
theorem swp_swp (M : Nat → Nat → Nat) (a b i j : Nat) : swp (swp M a b) a b i j = M i j := by
 unfold swp
 by_cases h1 : i = a
 ·subst h1
  rw [if_pos rfl]
  by_cases h2 : b = i
  ·rw [if_pos h2, h2]
  ·rw [if_neg h2, if_pos rfl]
 ·rw [if_neg h1]
  by_cases h2 : i = b
  ·subst h2
   rw [if_pos rfl, if_pos rfl]
  ·rw [if_neg h2, if_neg h1, if_neg h2]
theorem swp_le {M : Nat → Nat → Nat} (hM : El2 M) {r a b : Nat} (ha : a < r) (hb : b < r) : Le (swp M a b) r M r := fun i hi => by
 by_cases h1 : i = a
 ·exact (qa6 hM hb).congr (fun j => by unfold swp; rw [if_pos h1])
 ·by_cases h2 : i = b
  ·exact (qa6 hM ha).congr (fun j => by unfold swp; rw [if_neg h1, if_pos h2])
  ·exact (qa6 hM hi).congr (fun j => by unfold swp; rw [if_neg h1, if_neg h2])
theorem Le.rows {M N L : Nat → Nat → Nat} {s r : Nat} (h : Le N s M r) (e : ∀ i j, i < s → L i j = N i j) : Le L s M r := fun i hi => (h i hi).congr (fun j => e i j hi)
theorem Le.rows2 {M N L : Nat → Nat → Nat} {s r : Nat} (h : Le N s M r) (e : ∀ i j, i < r → M i j = L i j) : Le N s L r := fun i hi => (h i hi).rows e
theorem SpEq.rows {M N L : Nat → Nat → Nat} {s r : Nat} (h : SpEq N s M r) (e : ∀ i j, i < s → L i j = N i j) : SpEq L s M r := ⟨h.1.rows e, h.2.rows2 (fun i j hi => (e i j hi).symm)⟩
theorem qf5 {M : Nat → Nat → Nat} (hM : El2 M) {r a b : Nat} (ha : a < r) (hb : b < r) : SpEq (swp M a b) r M r :=
 ⟨swp_le hM ha hb, (swp_le (qgw hM a b) ha hb).rows (fun i j _ => (swp_swp M a b i j).symm)⟩
/-- A row is multiplied by what is not 0. -/
theorem qcb {M : Nat → Nat → Nat} (hM : El2 M) {r t c : Nat} (_ht : t < r) (hc : c < 256) (h0 : c ≠ 0) : SpEq (rw1 M t (fun j => fm c (M t j))) r M r := by
 have hE : El2 (rw1 M t (fun j => fm c (M t j))) := qgv hM (fun j => qah _ _ hc) t
 refine ⟨fun i hi => ?_, fun i hi => ?_⟩
 ·by_cases e : i = t
  ·subst e
   exact (qb1 hc (qa6 hM hi)).congr (fun j => qe8 _ _ _ j)
  ·exact (qa6 hM hi).congr (fun j => qf4 _ _ j e)
 ·by_cases e : i = t
  ·subst e
   refine (qb1 (qae c) (qa6 hE hi)).congr (fun j => ?_)
   rw [qe8, ← qag _ _ _ (qae c) hc, qaa _ _ (qae c) hc, qal _ hc h0, qat _ (hM i j)]
  ·exact (qa6 hE hi).congr (fun j => (qf4 _ _ j e).symm)
/-- All rows but row t: so much of row t is taken off that column j is 0. -/
def clr (M : Nat → Nat → Nat) (t j i l : Nat) : Nat := if i = t then M t l else M i l ^^^ fm (M i j) (M t l)
theorem clr_el {M : Nat → Nat → Nat} (hM : El2 M) (t j : Nat) : El2 (clr M t j) := fun i l => by unfold clr; split; exact hM _ _; exact qba _ _ (hM _ _) (qah _ _ (hM _ _))
theorem spEq_clr {M : Nat → Nat → Nat} (hM : El2 M) {r t : Nat} (ht : t < r) (j : Nat) : SpEq (clr M t j) r M r := by
 have hE := clr_el hM t j
 have et : ∀ l, clr M t j t l = M t l := fun l => if_pos rfl
 refine ⟨fun i hi => ?_, fun i hi => ?_⟩
 ·by_cases e : i = t
  ·subst e
   exact (qa6 hM hi).congr et
  ·exact (qd2 (qa6 hM hi) (qb1 (hM i j) (qa6 hM ht))).congr (fun l => if_neg e)
 ·by_cases e : i = t
  ·subst e
   exact (qa6 hE hi).congr (fun l => (et l).symm)
  ·refine (qd2 (qa6 hE hi) (qb1 (hM i j) (qa6 hE ht))).congr (fun l => ?_)
   rw [et l]
   show M i l = (if i = t then M t l else M i l ^^^ fm (M i j) (M t l)) ^^^ _
   rw [if_neg e, Nat.xor_assoc, Nat.xor_self, Nat.xor_zero]
/-- The first columns, below j, are reduced: top pivots so far. -/
structure Elm (M : Nat → Nat → Nat) (r top j : Nat) (p : Nat → Nat) : Prop where
 tr : top ≤ r
 up : ∀ i t, i < t → t < top → p i < p t
 lt : ∀ i, i < top → p i < j
 one : ∀ i, i < top → M i (p i) = 1
 off : ∀ i t, i < top → t < r → t ≠ i → M t (p i) = 0
 low : ∀ i l, i < top → l < p i → M i l = 0
 nul : ∀ i l, top ≤ i → i < r → l < j → M i l = 0
theorem elm_zero (M : Nat → Nat → Nat) (r : Nat) (p : Nat → Nat) : Elm M r 0 0 p := ⟨by omega, fun _ _ _ h => by omega, fun _ h => by omega, fun _ h => by omega, fun _ _ h => by omega, fun _ _ h => by omega, fun _ _ _ _ h => by omega⟩
theorem Elm.rows {M N : Nat → Nat → Nat} {r top j : Nat} {p : Nat → Nat} (h : Elm M r top j p) (e : ∀ i l, i < r → N i l = M i l) : Elm N r top j p := by
 have := h.tr
 exact ⟨h.tr, h.up, h.lt, fun i hi => by rw [e _ _ (by omega)]; exact h.one i hi, fun i t hi ht hne => by rw [e _ _ ht]; exact h.off i t hi ht hne, fun i l hi hl => by rw [e _ _ (by omega)]; exact h.low i l hi hl, fun i l hi hr hl => by rw [e _ _ hr]; exact h.nul i l hi hr hl⟩
theorem Elm.seq {M : Nat → Nat → Nat} {r top j : Nat} {p q : Nat → Nat} (h : Elm M r top j p) (e : ∀ i, i < top → q i = p i) : Elm M r top j q :=
 ⟨h.tr, fun i t hi ht => by rw [e i (by omega), e t ht]; exact h.up i t hi ht, fun i hi => by rw [e i hi]; exact h.lt i hi, fun i hi => by rw [e i hi]; exact h.one i hi, fun i t hi ht hne => by rw [e i hi]; exact h.off i t hi ht hne, fun i l hi hl => by rw [e i hi] at hl; exact h.low i l hi hl, h.nul⟩
theorem Elm.skip {M : Nat → Nat → Nat} {r top j : Nat} {p : Nat → Nat} (h : Elm M r top j p) (h0 : ∀ i, top ≤ i → i < r → M i j = 0) : Elm M r top (j + 1) p :=
 ⟨h.tr, h.up, fun i hi => by have := h.lt i hi; omega, h.one, h.off, h.low, fun i l hi hr hl => by
  by_cases e : l = j
  ·subst e; exact h0 i hi hr
  ·exact h.nul i l hi hr (by omega)⟩
/-- Two rows below the pivots may change places. -/
theorem Elm.swp {M : Nat → Nat → Nat} {r top j a b : Nat} {p : Nat → Nat} (h : Elm M r top j p) (ha : top ≤ a) (hb : top ≤ b) (har : a < r) (hbr : b < r) : Elm (swp M a b) r top j p := by
 have up : ∀ i l, i < top → Go.Proofs.Ytokdejhbjoglcaa.swp M a b i l = M i l := fun i l hi => by unfold Go.Proofs.Ytokdejhbjoglcaa.swp; rw [if_neg (by omega), if_neg (by omega)]
 refine ⟨h.tr, h.up, h.lt, fun i hi => by rw [up _ _ hi]; exact h.one i hi, fun i t hi ht hne => ?_, fun i l hi hl => by rw [up _ _ hi]; exact h.low i l hi hl, fun i l hi hr hl => ?_⟩
 ·unfold Go.Proofs.Ytokdejhbjoglcaa.swp
  split
  ·exact h.off i b hi hbr (by omega)
  ·split
   ·exact h.off i a hi har (by omega)
   ·exact h.off i t hi ht hne
 ·unfold Go.Proofs.Ytokdejhbjoglcaa.swp
  split
  ·exact h.nul b l hb hbr hl
  ·split
   ·exact h.nul a l ha har hl
   ·exact h.nul i l hi hr hl
/-- A row below the pivots may be multiplied. -/
theorem Elm.scale {M : Nat → Nat → Nat} {r top j a c : Nat} {p : Nat → Nat} (h : Elm M r top j p) (ha : top ≤ a) (har : a < r) : Elm (rw1 M a (fun l => fm c (M a l))) r top j p := by
 have up : ∀ i l, i < top → rw1 M a (fun l => fm c (M a l)) i l = M i l := fun i l hi => qf4 _ _ _ (by omega)
 refine ⟨h.tr, h.up, h.lt, fun i hi => by rw [up _ _ hi]; exact h.one i hi, fun i t hi ht hne => ?_, fun i l hi hl => by rw [up _ _ hi]; exact h.low i l hi hl, fun i l hi hr hl => ?_⟩
 ·unfold rw1
  split
  ·show fm c (M a (p i)) = 0
   rw [h.off i a hi har (by omega), qa4]
  ·exact h.off i t hi ht hne
 ·unfold rw1
  split
  ·show fm c (M a l) = 0
   rw [h.nul a l ha har hl, qa4]
  ·exact h.nul i l hi hr hl
/-- One pivot more. -/
theorem Elm.step {M : Nat → Nat → Nat} (hM : El2 M) {r top j : Nat} {p : Nat → Nat} (h : Elm M r top j p) (ht : top < r) (h1 : M top j = 1) : Elm (clr M top j) r (top + 1) (j + 1) (fun i => if i = top then j else p i) := by
 have et : ∀ l, clr M top j top l = M top l := fun l => if_pos rfl
 have en : ∀ i l, i ≠ top → clr M top j i l = M i l ^^^ fm (M i j) (M top l) := fun i l hi => if_neg hi
 -- left of column j the row of the pivot is 0
 have hl : ∀ l, l < j → M top l = 0 := fun l hl => h.nul top l (Nat.le_refl _) ht hl
 have same : ∀ i l, l < j → clr M top j i l = M i l := fun i l hlj => by
  by_cases e : i = top
  ·rw [e, et]
  ·rw [en _ _ e, hl l hlj, qa4, Nat.xor_zero]
 have hpj : ∀ i, i < top → p i < j := h.lt
 refine ⟨by omega, fun i t hi ht' => ?_, fun i hi => ?_, fun i hi => ?_, fun i t hi htr hne => ?_, fun i l hi hlp => ?_, fun i l hi hr hlj => ?_⟩
 ·show (if i = top then j else p i) < (if t = top then j else p t)
  rw [if_neg (by omega)]
  split
  ·exact hpj i (by omega)
  ·exact h.up i t hi (by omega)
 ·show (if i = top then j else p i) < j + 1
  split
  ·omega
  ·have := hpj i (by omega); omega
 ·show clr M top j i (if i = top then j else p i) = 1
  by_cases e : i = top
  ·rw [if_pos e, e, et, h1]
  ·rw [if_neg e, same _ _ (hpj i (by omega))]; exact h.one i (by omega)
 ·show clr M top j t (if i = top then j else p i) = 0
  by_cases e : i = top
  ·rw [if_pos e, en _ _ (by omega), h1, qao _ (hM t j), Nat.xor_self]
  ·rw [if_neg e, same _ _ (hpj i (by omega))]; exact h.off i t (by omega) htr hne
 ·have hlp : l < (if i = top then j else p i) := hlp
  by_cases e : i = top
  ·rw [if_pos e] at hlp
   rw [e, et]; exact hl l hlp
  ·rw [if_neg e] at hlp
   rw [same _ _ (by have := hpj i (by omega); omega)]; exact h.low i l (by omega) hlp
 ·by_cases e : l = j
  ·subst e
   rw [en _ _ (by omega), h1, qao _ (hM i l), Nat.xor_self]
  ·rw [same _ _ (by omega)]; exact h.nul i l (by omega) hr (by omega)
theorem Elm.rdf {M : Nat → Nat → Nat} {r top j : Nat} {p : Nat → Nat} (h : Elm M r top j p) (h0 : top = r ∨ ∀ i l, i < r → j ≤ l → M i l = 0) : Rdf M r top p :=
 ⟨h.tr, h.up, h.one, h.off, h.low, fun i l hi hr => by
  rcases h0 with e | h0
  ·omega
  ·by_cases e : l < j
   ·exact h.nul i l hi hr e
   ·exact h0 i l hr (by omega)⟩
/-- Behind the last column all is 0. -/
def Cut (M : Nat → Nat → Nat) (c : Nat) : Prop := ∀ i j, c ≤ j → M i j = 0
theorem Spn.cut {M : Nat → Nat → Nat} {r c : Nat} {y : Nat → Nat} (h : Spn M r y) (hM : ∀ i j, i < r → c ≤ j → M i j = 0) (j : Nat) (hj : c ≤ j) : y j = 0 := by
 obtain ⟨a, _, e⟩ := h
 rw [e j]
 exact qab (fun i hi => by rw [hM i j hi hj, qa4])
theorem Le.cut {M N : Nat → Nat → Nat} {r s c : Nat} (h : Le N s M r) (hM : ∀ i j, i < r → c ≤ j → M i j = 0) : ∀ i j, i < s → c ≤ j → N i j = 0 := fun i j hi hj => (h i hi).cut hM j hj
end Go.Proofs.Ytokdejhbjoglcaa
