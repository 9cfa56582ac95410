/-
  Stage 13: names in a rising list.
-/
import Derived.Test.YtemhodenkgngmaaDoorQuues00
import Derived.Test.YtemhodenkgngmaaDoorQuues32
set_option maxRecDepth 100000
set_option maxHeartbeats 16000000
namespace Go.Proofs.YtemhodenkgngmaaDoor
open Go.RowKit Go.Shelf Go.Maps
/-- A list that rises. -/
def Ris (O : List (List UInt8)) : Prop := O.Pairwise (· < ·)
theorem lt_tri {a b : List UInt8} (h1 : ¬ a < b) (h2 : a ≠ b) : b < a := by
 by_cases h : b < a
 ·exact h
 ·exact absurd (List.le_antisymm (List.not_lt.1 h) (List.not_lt.1 h1)) h2
theorem qfp {O : List (List UInt8)} {x : List UInt8} {q : Nat} (h : Ris O) (hq : q ≤ O.length) (h1 : ∀ j y, j < q → O[j]? = some y → y < x) (h2 : ∀ y, O[q]? = some y → ¬ y < x ∧ y ≠ x) : Ris (O.take q ++ x :: O.drop q) := by
 unfold Ris at *
 rw [List.pairwise_append]
 have hd : (O.drop q).Pairwise (· < ·) := h.sublist (List.drop_sublist _ _)
 have hxd : ∀ y ∈ O.drop q, x < y := by
  intro y hy
  cases hc : O.drop q with
  | nil => rw [hc] at hy; cases hy
  | cons z r =>
   have hz : O[q]? = some z := by rw [← List.head?_drop, hc]; rfl
   have hxz := lt_tri (h2 z hz).1 (h2 z hz).2
   rw [hc] at hy hd
   rcases List.mem_cons.1 hy with rfl | hy
   ·exact hxz
   ·exact List.lt_trans hxz ((List.pairwise_cons.1 hd).1 y hy)
 refine ⟨h.sublist (List.take_sublist _ _), List.pairwise_cons.2 ⟨hxd, hd⟩, fun a ha b hb => ?_⟩
 have hax : a < x := by
  obtain ⟨j, hj, e⟩ := List.getElem_of_mem ha
  have hj2 : j < q := by rw [List.length_take] at hj; omega
  exact h1 j a hj2 (by rw [← e, List.getElem_take, List.getElem?_eq_getElem])
 rcases List.mem_cons.1 hb with rfl | hb
 ·exact hax
 ·exact List.lt_trans hax (hxd b hb)
theorem put_mem {O : List (List UInt8)} {x : List UInt8} {q : Nat} {y : List UInt8} : y ∈ O.take q ++ x :: O.drop q ↔ y = x ∨ y ∈ O := by
 rw [List.mem_append, List.mem_cons]
 constructor
 ·rintro (h | h | h)
  ·exact .inr (List.mem_of_mem_take h)
  ·exact .inl h
  ·exact .inr (List.mem_of_mem_drop h)
 ·rintro (h | h)
  ·exact .inr (.inl h)
  ·rw [← List.take_append_drop q O] at h
   rcases List.mem_append.1 h with h | h
   ·exact .inl h
   ·exact .inr (.inr h)
/-- There is one rising list of the names. -/
theorem qfq {O : List (List UInt8)} {U : List Us} (h : Ris O) (hm : ∀ x, x ∈ O ↔ ∃ u ∈ U, u.nm.data.toList = x) : O = (nam U).mergeSort leB := by
 have hnd : O.Nodup := h.imp (fun {a b} hab e => by subst e; exact List.lt_irrefl _ hab)
 have hp : O.Perm (nam U) := (List.perm_ext_iff_of_nodup hnd (qd6 U)).2 (fun x => by rw [hm, qfo])
 rw [← mergeSort_of_perm hp]
 have tr : ∀ a b c : List UInt8, leB a b = true → leB b c = true → leB a c = true := fun a b c h1 h2 => by simp only [leB, decide_eq_true_eq] at *; exact List.le_trans h1 h2
 have to : ∀ a b : List UInt8, (leB a b || leB b a) = true := fun a b => by simp only [leB, Bool.or_eq_true, decide_eq_true_eq]; exact List.le_total a b
 refine List.Perm.eq_of_pairwise (le := fun a b => leB a b = true) (fun a b _ _ h1 h2 => ?_) (h.imp (fun {a b} hab => ?_)) (List.pairwise_mergeSort tr to O) (List.mergeSort_perm O leB).symm
 ·simp only [leB, decide_eq_true_eq] at h1 h2
  exact List.le_antisymm h1 h2
 ·simp only [leB, decide_eq_true_eq]
  exact List.le_of_lt hab
end Go.Proofs.YtemhodenkgngmaaDoor
