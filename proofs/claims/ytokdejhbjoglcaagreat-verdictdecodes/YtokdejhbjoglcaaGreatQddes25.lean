/-
  Contract of the reference: Inverse.
-/
import Derived.Test.YtokdejhbjoglcaaGreatQddes00
import Derived.Test.YtokdejhbjoglcaaGreatQddes24
set_option maxRecDepth 100000
set_option maxHeartbeats 16000000
namespace Go.Proofs.YtokdejhbjoglcaaGreat
open Go.RowKit
/-- As many rows as the rank: they are independent. -/
theorem Rk.ind {M : Nat → Nat → Nat} (hM : El2 M) {r : Nat} (h : Rk M r r) : Ind M r := by
 intro a ha hz i hi
 apply Classical.byContradiction
 intro hne
 obtain ⟨r, rfl⟩ : ∃ r', r = r' + 1 := ⟨r - 1, by omega⟩
 have hle : Le M (r + 1) (fun u => M (sk i u)) r := by
  have hE : El2 (fun u => M (sk i u)) := fun u j => hM _ j
  intro t ht
  by_cases e : t = i
  ·subst e
   have hv := qak (a t)
   refine (qb8 hv ⟨fun u => a (sk t u), fun u => ha _, fun _ => rfl⟩ : Spn (fun u => M (sk t u)) r (fun j => fm (finv (a t)) (lc (fun u => a (sk t u)) (fun u => M (sk t u)) r j))).congr (fun j => ?_)
   have e1 := hz j
   rw [qjf (k := t) _ _ (by omega)] at e1
   have e2 := qe2 e1
   rw [← e2, ← qat _ _ _ hv (ha t), qaj _ _ hv (ha t), qav _ (ha t) hne, qb3 _ (hM t j)]
  ·obtain ⟨u, hu, e2⟩ : ∃ u, u < r ∧ sk i u = t := by
    by_cases h1 : t < i
    ·exact ⟨t, by omega, by unfold sk; rw [if_pos h1]⟩
    ·exact ⟨t - 1, by omega, by unfold sk; rw [if_neg (by omega)]; omega⟩
   rw [← e2]
   exact qab hE hu
 have := h.le hle
 omega
/-- A matrix of full rank has an inverse. -/
theorem qkc {M : Nat → Nat → Nat} (hM : El2 M) {r : Nat} (hc : ∀ i j, i < r → r ≤ j → M i j = 0) (h : Rk M r r) : ∃ A, El2 A ∧ (∀ i j, i < r → j < r → pr A M r i j = dl i j) ∧ ∀ i j, i < r → j < r → pr M A r i j = dl i j := by
 have hI := h.ind hM
 -- each unit row is a combination
 have hu : ∀ i, i < r → Spn M r (dl i) := by
  intro i hi
  apply Classical.byContradiction
  intro hno
  -- M with dl i behind it
  have hE : El2 (fun t => if t < r then M t else dl i) := fun t j => by
   show (if t < r then M t else dl i) j < 256
   split
   ·exact hM t j
   ·exact qfr i j
  have h1 : Rk (fun t => if t < r then M t else dl i) r r := h.at (fun t j ht => by show (if t < r then M t else dl i) j = _; rw [if_pos ht])
  have h2 := h1.more hE (fun hs => hno (by
   rw [if_neg (Nat.lt_irrefl r)] at hs
   exact hs.rows (fun t j ht => by show (if t < r then M t else dl i) j = _; rw [if_pos ht])))
  have hD : El2 dl := fun t j => qfr t j
  have hle : Le (fun t => if t < r then M t else dl i) (r + 1) dl r := by
   intro t _
   have key : ∀ y : Nat → Nat, El y → (∀ j, r ≤ j → y j = 0) → Spn dl r y := fun y hy hz => ⟨y, hy, fun j => by
    unfold lc
    by_cases hj : j < r
    ·rw [qb4 hj (fun t _ hne => by rw [qcs (Ne.symm hne), qa8]), qbh, qaw _ (hy j)]
    ·rw [hz j (by omega)]
     exact (qaf (fun t ht => by rw [qcs (by omega), qa8])).symm⟩
   by_cases ht : t < r
   ·have e : (fun t => if t < r then M t else dl i) t = M t := if_pos ht
    rw [e]
    exact key (M t) (hM t) (fun j hj => hc t j ht hj)
   ·have e : (fun t => if t < r then M t else dl i) t = dl i := if_neg ht
    rw [e]
    exact key (dl i) (qfr i) (fun j hj => qcs (by omega))
  have := h2.le hle
  omega
 obtain ⟨A, hA, eA⟩ := (show Le dl r M r from hu).factors
 have hL : ∀ i j, i < r → pr A M r i j = dl i j := fun i j hi => (eA i hi j).symm
 refine ⟨A, hA, fun i j hi _ => hL i j hi, fun i j hi hj => ?_⟩
 -- (M A - I) M = 0
 have hd : El (fun t => pr M A r i t ^^^ dl i t) := fun t => qb7 _ _ (pr_el hM A r i t) (qfr i t)
 have hz : ∀ l, lc (fun t => pr M A r i t ^^^ dl i t) M r l = 0 := fun l => by
  rw [qjd (pr_el hM A r i) (qfr i), lc_dl hM hi]
  have e1 : lc (pr M A r i) M r l = lc (M i) (fun t j => lc (A t) M r j) r l := (qje (hM i) hA M r r l).symm
  have e2 : lc (M i) (fun t j => lc (A t) M r j) r l = M i l := by
   have : lc (M i) (fun t j => lc (A t) M r j) r l = xs (fun t => fm (M i t) (dl t l)) r := qa7 (fun t ht => by
    show fm (M i t) (pr A M r t l) = _
    rw [hL t l ht])
   rw [this]
   by_cases hl : l < r
   ·rw [qb4 hl (fun t _ hne => by rw [qcs (Ne.symm hne), qa8]), qbh, qaw _ (hM i l)]
   ·rw [hc i l hi (by omega)]
    exact qaf (fun t ht => by rw [qcs (by omega), qa8])
  rw [e1, e2, Nat.xor_self]
 exact qe2 (hI _ hd hz j hj)
def uj (j l : Nat) : Nat := if l = j then 1 else 0
theorem uj_lt (j l : Nat) : uj j l < 256 := by unfold uj; split <;> decide
end Go.Proofs.YtokdejhbjoglcaaGreat
