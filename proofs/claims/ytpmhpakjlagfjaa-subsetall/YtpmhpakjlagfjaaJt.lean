/-
  What the loop over All's sets needs: of any n and k, how many sets there are and which, and that the program and the reference tell the same.
-/
import Derived.Test.YtpmhpakjlagfjaaJs
namespace Go.Proofs.Ytpmhpakjlagfjaa
open Go.RowKit Go.Shelf
/-- How many sets All tells, and which. -/
structure AllF (n k : Int) (C : Nat) (f ix : Nat → Nat) : Prop where
  ix : ∀ j, j < C → ix (f j) = j
  a0 : C = 0 → ∀ w : World, Calls Try.prog 31 #[.int .i64 n, .int .i64 k, .int .i64 0] w fun e w' => e = .returned (.tuple #[.int .u64 0, .int .i64 2]) ∧ Below w.heap.size w w'
  a1 : 0 < C → ∀ w : World, Calls Try.prog 31 #[.int .i64 n, .int .i64 k, .int .i64 0] w fun e w' => e = .returned (.tuple #[.int .u64 (f 0 : Nat), .int .i64 0]) ∧ Below w.heap.size w w'
  n1 : ∀ j, j + 1 < C → ∀ w : World, Calls Try.prog 23 #[.int .i64 n, .int .u64 (f j : Nat)] w fun e w' => e = .returned (.tuple #[.int .u64 (f (j + 1) : Nat), .bool true]) ∧ Below w.heap.size w w'
  n0 : ∀ j, j + 1 = C → ∀ w : World, Calls Try.prog 23 #[.int .i64 n, .int .u64 (f j : Nat)] w fun e w' => e = .returned (.tuple #[.int .u64 0, .bool false]) ∧ Below w.heap.size w w'
theorem all_facts (n k : Int) (M : Nat) (hM : M ≤ 1000000) : ∃ (C : Nat) (f ix : Nat → Nat) (L : Nat), AllF n k C f ix ∧ min M C = L ∧
    ∀ w : World, Calls Try.prog 27 #[.int .i64 n, .int .i64 k, .int .i64 (M : Int)] w fun e w' => ∃ x d, e = .returned (.slice x L d) ∧ Jo w' w.heap.size 24 .u64 (.slice x L d) L f ∧ Below w.heap.size w w' := by
  by_cases h : n < 0 ∨ 64 < n ∨ k < 0 ∨ n < k
  · refine ⟨0, fun _ => 0, id, 0, ⟨fun j hj => by omega, fun _ w => ?_, fun h => by omega, fun j hj => by omega, fun j hj => by omega⟩, by omega, fun w => (rall_none n k M w h).mono (fun e w' h => ⟨none, 0, h.1, Jo.nil _ _ _ _ _, h.2 ▸ Below.refl _ _⟩)⟩
    by_cases h1 : n < 0 ∨ 64 < n
    · exact (jat_bad n k 0 w h1).mono (fun e w' h => ⟨h.1, h.2 ▸ Below.refl _ _⟩)
    · obtain ⟨n, rfl⟩ := Int.eq_ofNat_of_zero_le (show 0 ≤ n by omega)
      refine jat_no n k 0 w (by omega) (.inr ?_)
      have : chs n k = 0 := by
        unfold chs
        by_cases hk : 0 ≤ k
        · rw [if_pos hk]
          exact bin_above _ _ (by omega)
        · exact if_neg hk
      rw [this]
      exact Int.le_refl _
  · obtain ⟨n, rfl⟩ := Int.eq_ofNat_of_zero_le (show 0 ≤ n by omega)
    obtain ⟨k, rfl⟩ := Int.eq_ofNat_of_zero_le (show 0 ≤ k by omega)
    have hn : n ≤ 64 := by omega
    have hk : k ≤ n := by omega
    have hp := bin_pos n k hk
    refine ⟨bin n k, aset n k, fun s => pla s n, _, ⟨fun j hj => (aset_both n k j hj).2, fun h => by omega, fun _ w => jat_ok n k 0 w hn hk hp, fun j hj w => ?_, fun j hj w => ?_⟩, rfl, fun w => (rall_ok n k M w hn hk hM _ rfl).mono (fun e w' h => ?_)⟩
    · have h1 := jnext_ok n (aset n k j) w hn (aset_lt n k j)
      rw [nx_aset_some hj] at h1
      exact h1
    · have h1 := jnext_ok n (aset n k j) w hn (aset_lt n k j)
      rw [nx_aset_none hj] at h1
      exact h1
    · obtain ⟨v, he, ho, hb⟩ := h
      obtain ⟨x, d, rfl, _⟩ := ho.form
      exact ⟨x, d, he, ho, hb⟩
end Go.Proofs.Ytpmhpakjlagfjaa
