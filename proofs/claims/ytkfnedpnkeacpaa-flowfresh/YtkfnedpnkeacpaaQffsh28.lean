/-
  Stage 21: the trimmed flow may be.
-/
import Derived.Test.YtkfnedpnkeacpaaQffsh00
import Derived.Test.YtkfnedpnkeacpaaQffsh27
set_option maxRecDepth 100000
set_option maxHeartbeats 16000000
namespace Go.Proofs.Ytkfnedpnkeacpaa
open Go.RowKit
theorem qfd {F : Fl} : ∀ k v u j, hang F k v u → j < tn F u → hang F (k + 1) v (tv F u j) := by
 intro k
 induction k with
 | zero => intro v u j h hj; rw [show v = u from h]; exact ⟨j, hj, rfl⟩
 | succ k ih =>
  intro v u j h hj
  obtain ⟨i, hi, hx⟩ := h
  exact ⟨i, hi, ih _ _ _ hx hj⟩
theorem NeedP.step {F : Fl} {u j : Nat} (h : NeedP F u) (hj : j < tn F u) : NeedP F (tv F u j) := by
 obtain ⟨o, ho, k, hk⟩ := h
 exact ⟨o, ho, k + 1, qfd _ _ _ _ hk hj⟩
theorem hang_le {F : Fl} (hM : MayP F) : ∀ k v u, v < F.ni + F.nn → hang F k v u → u ≤ v := by
 intro k
 induction k with
 | zero => intro v u _ h; rw [show v = u from h]; exact Nat.le_refl _
 | succ k ih =>
  intro v u hv h
  obtain ⟨j, hj, hx⟩ := h
  have h1 := (hM.term hv hj).2.1
  have h2 := ih _ _ (by omega) hx
  omega
theorem MayP.outLt {F : Fl} (hM : MayP F) {o : Nat} (ho : o < F.no) : (F.out o).toNat < F.ni + F.nn := by
 have := hM.outs o ho
 omega
theorem NeedP.lt {F : Fl} (hM : MayP F) {u : Nat} (h : NeedP F u) : u < F.ni + F.nn := by
 obtain ⟨o, ho, k, hk⟩ := h
 have h1 := hM.outLt ho
 have h2 := hang_le hM k _ _ h1 hk
 omega
theorem InP.lt {n : Nat} {q : Nat → Int} (h : InP n q) : ∀ j i, i < j → j < n → q i < q j := by
 intro j
 induction j with
 | zero => intro i hi; omega
 | succ j ih =>
  intro i hi hj
  have h1 := (h (j + 1) hj).2.2 (by omega)
  rw [Nat.add_sub_cancel] at h1
  by_cases e : i = j
  ·rw [e]; exact h1
  ·have := ih i (by omega) (by omega); omega
end Go.Proofs.Ytkfnedpnkeacpaa
