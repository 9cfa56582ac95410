/-
  Contract of Next.
-/
import Derived.Test.YtfajmoiffjbcbabJf
import Derived.WalkMore
import Derived.ScopeJumps
namespace Go.Proofs.Ytfajmoiffjbcbab
open Go.RowKit
/-- What Next answers. -/
def nxa : Option Nat → Array Value
  | none => #[.int .u64 0, .bool false]
  | some u => #[.int .u64 (u : Int), .bool true]
/-- Next, halfway: down to the number i nothing rises; c numbers are met. -/
def NxI (s n i c : Nat) : Prop := cn (s / 2 ^ i) (n - i) = c ∧ nx (s / 2 ^ i) (n - i) = none
theorem NxI.start (s n : Nat) : NxI s n n 0 := by
  unfold NxI
  rw [Nat.sub_self]
  exact ⟨rfl, rfl⟩
theorem NxI.skip {s n i c : Nat} (I : NxI s n (i + 1) c) (hi : i < n) (h : bt s i = 0) : NxI s n i c := by
  obtain ⟨a, b⟩ := I
  obtain ⟨l, hl⟩ : ∃ l, l = n - (i + 1) := ⟨_, rfl⟩
  rw [← hl] at a b
  have e : n - i = l + 1 := by omega
  unfold NxI
  rw [e]
  exact ⟨by rw [cn_even (show s / 2 ^ i % 2 = 0 from h), div_up]; exact a, nx_skip b h⟩
theorem NxI.stay {s n i c : Nat} (I : NxI s n (i + 1) c) (hi : i < n) (h : bt s i = 1) (hc : ¬ i + (c + 1) < n) : NxI s n i (c + 1) := by
  obtain ⟨a, b⟩ := I
  obtain ⟨l, hl⟩ : ∃ l, l = n - (i + 1) := ⟨_, rfl⟩
  rw [← hl] at a b
  have e : n - i = l + 1 := by omega
  unfold NxI
  rw [e]
  exact ⟨by rw [cn_odd (show s / 2 ^ i % 2 = 1 from h), div_up, a], nx_stay b (by omega)⟩
theorem NxI.rise {s n i c : Nat} (I : NxI s n (i + 1) c) (hi : i < n) (h : bt s i = 1) (hc : i + (c + 1) < n) : nx s n = some (s % 2 ^ i + (2 ^ (c + 1) - 1) * 2 ^ (i + 1)) := by
  obtain ⟨a, b⟩ := I
  obtain ⟨l, hl⟩ : ∃ l, l = n - (i + 1) := ⟨_, rfl⟩
  rw [← hl] at a b
  have := nx_go b h a (by omega)
  rwa [show i + (l + 1) = n by omega] at this
theorem shl_lt {i c n : Nat} (h : i + (c + 1) < n) (hn : n ≤ 64) : (2 ^ (c + 1) - 1) * 2 ^ (i + 1) < 18446744073709551616 := by
  have h1 := Nat.two_pow_pos (c + 1)
  have h2 : (2 ^ (c + 1) - 1) * 2 ^ (i + 1) < 2 ^ (c + 1) * 2 ^ (i + 1) := Nat.mul_lt_mul_of_pos_right (by omega) (Nat.two_pow_pos _)
  rw [← Nat.pow_add] at h2
  exact Nat.lt_of_lt_of_le h2 (pow_le_64 (by omega))
theorem jjump_ret {l : Nat} {J : Act → World → Prop} {Q : Exit → Act → World → Prop} {a : Act} {w : World} : Exit.jump l J Q Exit.ret a w = Q Exit.ret a w := rfl
end Go.Proofs.Ytfajmoiffjbcbab
