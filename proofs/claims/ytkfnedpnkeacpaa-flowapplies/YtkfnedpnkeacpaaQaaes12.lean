/-
  Contracts of the matrices' reference: Identity, Row, Same.
-/
import Derived.Test.YtkfnedpnkeacpaaQaaes00
import Derived.Test.YtkfnedpnkeacpaaQaaes11
set_option maxRecDepth 100000
set_option maxHeartbeats 16000000
namespace Go.Proofs.Ytkfnedpnkeacpaa
open Go.RowKit
/-- The identity's entries, the first k rows of it. -/
def idk (n k p : Nat) : Nat := if p % (n + 1) = 0 ∧ p / (n + 1) < k then 1 else 0
/-- The identity's entries. -/
def idf (n p : Nat) : Nat := if p % (n + 1) = 0 then 1 else 0
theorem idk_step (n k j : Nat) : (if j = k * n + k then 1 else idk n k j) = idk n (k + 1) j := by
 unfold idk
 have e : k * n + k = (n + 1) * k := by rw [Nat.mul_comm k n, Nat.add_mul, Nat.one_mul]
 by_cases h : j = k * n + k
 ·rw [if_pos h, h, e, if_pos ⟨Nat.mul_mod_right _ _, by rw [Nat.mul_div_cancel_left _ (by omega)]; omega⟩]
 ·rw [if_neg h]
  by_cases h0 : j % (n + 1) = 0
  ·have hk : j / (n + 1) ≠ k := fun e2 => h (by have := Nat.div_add_mod j (n + 1); rw [h0, e2] at this; rw [e]; omega)
   by_cases h1 : j / (n + 1) < k
   ·rw [if_pos ⟨h0, h1⟩, if_pos ⟨h0, by omega⟩]
   ·rw [if_neg (fun x => h1 x.2), if_neg (fun x => by have := x.2; omega)]
  ·rw [if_neg (fun x => h0 x.1), if_neg (fun x => h0 x.1)]
theorem idk_all (n j : Nat) (hj : j < n * n) : idk n n j = idf n j := by
 unfold idk idf
 have : j / (n + 1) < n := (Nat.div_lt_iff_lt_mul (by omega)).2 (Nat.lt_of_lt_of_le hj (Nat.mul_le_mul_left n (by omega)))
 by_cases h : j % (n + 1) = 0
 ·rw [if_pos ⟨h, this⟩, if_pos h]
 ·rw [if_neg (fun x => h x.1), if_neg h]
theorem idf_lt (n p : Nat) : idf n p < 256 := by unfold idf; split <;> decide
/-- The identity's entry (i, j). -/
theorem idf_at (n i j : Nat) (hi : i < n) (hj : j < n) : idf n (i * n + j) = if i = j then 1 else 0 := by
 unfold idf
 by_cases h : i = j
 ·subst h
  rw [if_pos rfl, if_pos]
  rw [show i * n + i = (n + 1) * i by rw [Nat.mul_comm i n, Nat.add_mul, Nat.one_mul]]
  exact Nat.mul_mod_right _ _
 ·rw [if_neg h, if_neg]
  intro h0
  apply h
  have e := Nat.div_add_mod (i * n + j) (n + 1)
  rw [h0, Nat.add_zero] at e
  obtain ⟨q, hq⟩ : ∃ q, (i * n + j) / (n + 1) = q := ⟨_, rfl⟩
  rw [hq, Nat.add_mul, Nat.one_mul] at e
  rcases Nat.lt_trichotomy q i with hl | he | hg
  ·obtain ⟨d, rfl⟩ : ∃ d, i = q + d + 1 := ⟨i - q - 1, by omega⟩
   have h4 : (q + d + 1) * n = n * q + n * d + n := by rw [Nat.add_mul, Nat.add_mul, Nat.one_mul, Nat.mul_comm q, Nat.mul_comm d]
   have h5 : q = n * d + n + j := by omega
   have h6 : 0 ≤ n * d := Nat.zero_le _
   omega
  ·subst he
   rw [Nat.mul_comm] at e
   omega
  ·obtain ⟨d, rfl⟩ : ∃ d, q = i + d + 1 := ⟨q - i - 1, by omega⟩
   have : n * (i + d + 1) = i * n + n * d + n := by rw [Nat.mul_add, Nat.mul_add, Nat.mul_one, Nat.mul_comm n i]
   omega
end Go.Proofs.Ytkfnedpnkeacpaa
