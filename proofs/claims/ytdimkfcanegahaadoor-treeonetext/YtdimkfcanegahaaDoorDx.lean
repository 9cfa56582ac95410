/-
  What TreeOneText needs.
-/
import Derived.Test.YtdimkfcanegahaaDoorDt
import Derived.Test.YtdimkfcanegahaaDoorDw
import Derived.Test.YtdimkfcanegahaaDoorDh
import Derived.Test.YtdimkfcanegahaaDoorGc
import Derived.Test.YtdimkfcanegahaaDoorGd
namespace Go.Proofs.YtdimkfcanegahaaDoor
open Go.RowKit
theorem dS_none {F : Nat → It} {n : Nat} (h : dE F n ≠ 0) : (dS F n).size = 0 := by
  unfold dE at h
  unfold dS
  split
  · rfl
  · rename_i hm
    rw [if_neg hm] at h
    split
    · rename_i hl
      rw [if_pos hl] at h
      exact absurd rfl h
    · rfl
theorem dE_zero {F : Nat → It} {n : Nat} (h : dE F n = 0) : mayD F n = true ∧ dS F n = ⟨(dby F n 0).toArray⟩ := by
  unfold dE at h
  unfold dS
  cases hm : mayD F n with
  | false => rw [hm] at h; simp at h
  | true =>
    rw [hm, if_neg (by simp)] at h
    refine ⟨rfl, ?_⟩
    rw [if_neg (by simp)]
    split
    · rfl
    · rename_i hl
      rw [if_neg hl] at h
      omega
theorem one_text {F G : Nat → It} {n m : Nat} (h0 : dE F n = 0) (h1 : dE G m = 0) : mayD F n = true ∧ mayD G m = true ∧ ((dS F n).toList == (dS G m).toList) = sdB F G n m := by
  obtain ⟨a1, e1⟩ := dE_zero h0
  obtain ⟨a2, e2⟩ := dE_zero h1
  refine ⟨a1, a2, ?_⟩
  rw [tl_eq, e1, e2]
  unfold sdB
  rw [a1, a2, Bool.true_and, Bool.true_and]
  have hM := (mayD_mi a1).2
  have hN := (mayD_mi a2).2
  rw [Bool.eq_iff_iff, decide_eq_true_eq, Bool.and_eq_true, decide_eq_true_eq, alB_iff]
  constructor
  · intro h
    have hb : dby F n 0 = dby G m 0 := by
      have := congrArg (fun x : ByteArray => x.data.toList) h
      simpa using this
    obtain ⟨hnm, hl⟩ := dby_one F G n m 0 0 (fun k hk => by rw [Nat.zero_add]; exact hM k hk) (fun k hk => by rw [Nat.zero_add]; exact hN k hk) hb
    exact ⟨hnm, fun i hi => li_iff.2 (by have := hl i hi; rw [Nat.zero_add] at this; exact this)⟩
  · rintro ⟨rfl, hl⟩
    have hb := dby_like F G n 0 0 (fun k hk => by rw [Nat.zero_add]; exact hM k hk) (fun k hk => by rw [Nat.zero_add]; exact hN k hk) (fun k hk => by rw [Nat.zero_add]; exact li_iff.1 (hl k hk))
    rw [hb]
end Go.Proofs.YtdimkfcanegahaaDoor
