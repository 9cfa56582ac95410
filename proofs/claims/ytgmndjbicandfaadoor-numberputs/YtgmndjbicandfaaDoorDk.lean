/-
  Contracts of the program's tree: how many nodes a shape leaves; MayShape.
-/
import Derived.Test.YtgmndjbicandfaaDoorDj
namespace Go.Proofs.YtgmndjbicandfaaDoor
open Go.RowKit
theorem all7 {x y z u v t s : Value} (h0 : x.oneCell' = true) (h1 : y.oneCell' = true) (h2 : z.oneCell' = true) (h3 : u.oneCell' = true) (h4 : v.oneCell' = true) (h5 : t.oneCell' = true) (h6 : s.oneCell' = true) : (#[x, y, z, u, v, t, s] : Array Value).all (·.oneCell') = true := by simp [h0, h1, h2, h3, h4, h5, h6]
theorem sleft_neg {d : Nat} {S : St} {left : Int} (h : left ≤ 0) : sleft d S left = -1 := by
  cases d with
  | zero => rfl
  | succ d => rw [sleft_succ, if_pos (by omega)]
theorem rlB_at {rl : Nat → Nat} : ∀ {n : Nat}, rlB rl n = true → ∀ i, i < n → 1 ≤ rl i ∧ rl i ≤ 64 := by
  intro n
  induction n with
  | zero => intro _ i hi; omega
  | succ n ih =>
    intro h i hi
    have h : (rlB rl n && decide (1 ≤ rl n ∧ rl n ≤ 64)) = true := h
    rw [Bool.and_eq_true] at h
    by_cases e : i = n
    · rw [e]; exact of_decide_eq_true h.2
    · exact ih h.1 i (by omega)
theorem rlB_not {rl : Nat → Nat} : ∀ {n : Nat}, rlB rl n = false → ∃ i, i < n ∧ (rl i < 1 ∨ 64 < rl i) := by
  intro n
  induction n with
  | zero => intro h; cases h
  | succ n ih =>
    intro h
    have h : (rlB rl n && decide (1 ≤ rl n ∧ rl n ≤ 64)) = false := h
    cases hb : rlB rl n with
    | false => obtain ⟨i, hi, g⟩ := ih hb; exact ⟨i, by omega, g⟩
    | true =>
      rw [hb, Bool.true_and] at h
      have := of_decide_eq_false h
      exact ⟨n, by omega, by omega⟩
theorem rks_low {len : Nat → Nat} {F : Nat → Nat → Xt} {left : Int} (h : -1 ≤ left) : ∀ k, -1 ≤ rks len F k left ∧ rks len F k left ≤ left := by
  intro k
  rcases Int.lt_or_le left 0 with g | g
  · have := rks_stop (len := len) (F := F) (k := 0) (left := left) g k
    rw [Nat.zero_add] at this
    rw [this]
    show -1 ≤ left ∧ left ≤ left
    omega
  · exact rks_le k left g
theorem rks_step {len : Nat → Nat} {F : Nat → Nat → Xt} {left : Int} (h : -1 ≤ left) (k : Nat) (h1 : 1 ≤ len k) (h2 : len k ≤ 64) : rks len F (k + 1) left = xks (xleft 16) (F k) (len k) (rks len F k left) := by
  rw [rks_succ]
  split
  · rename_i g
    have h3 := (rks_low (len := len) (F := F) h k).1
    have h4 := xks_low (d := 16) (F := F k) h3 (len k)
    omega
  · rw [if_neg (by omega)]
theorem rks_bad {len : Nat → Nat} {F : Nat → Nat → Xt} {left : Int} (h : -1 ≤ left) {n i : Nat} (hi : i < n) (hb : len i < 1 ∨ 64 < len i) : rks len F n left = -1 := by
  have h1 := (rks_low (len := len) (F := F) h i).1
  have h2 : rks len F (i + 1) left = -1 := by
    rw [rks_succ]
    split
    · omega
    · first | rfl | rw [if_pos hb]
  have := rks_stop (len := len) (F := F) (k := i + 1) (left := left) (by omega) (n - (i + 1))
  rw [show i + 1 + (n - (i + 1)) = n by omega] at this
  rw [this, h2]
theorem sks_low {d : Nat} {F : Nat → St} {left : Int} (h : -1 ≤ left) : ∀ k, -1 ≤ sks (sleft d) F k left ∧ sks (sleft d) F k left ≤ left := by
  intro k
  rcases Int.lt_or_le left 0 with g | g
  · have := sks_stop (f := sleft d) (F := F) (k := 0) (left := left) g k
    rw [Nat.zero_add] at this
    rw [this]
    show -1 ≤ left ∧ left ≤ left
    omega
  · exact sks_le (sleft_le d) k left g
theorem sks_step {d : Nat} {F : Nat → St} {left : Int} (h : -1 ≤ left) (k : Nat) : sks (sleft d) F (k + 1) left = sleft d (F k) (sks (sleft d) F k left) := by
  rw [sks_succ]
  split
  · rename_i g
    rw [sleft_neg (by omega)]
    have := (sks_low (d := d) (F := F) h k).1
    omega
  · rfl
theorem sleft_fits {d : Nat} {S : St} {left : Int} (h : 0 < left) (hf : (fsB (S []) && rlB (S []).rl (S []).nr) = false) : sleft (d + 1) S left = -1 := by
  rw [sleft_succ, if_neg (by omega)]
  cases hs : fsB (S []) with
  | false => rw [fs_want] at hs; rw [if_pos hs]
  | true =>
    rw [hs, Bool.true_and] at hf
    rw [fs_want] at hs
    rw [if_neg (by rw [hs]; simp)]
    obtain ⟨i, hi, hb⟩ := rlB_not hf
    have h1 := (xks_low (d := 16) (F := (S []).args) (left := left - 1) (by omega) (S []).na).1
    rw [rks_bad h1 hi hb]
    have := sks_stop (f := sleft d) (F := part S) (k := 0) (left := -1) (by show (-1 : Int) < 0; omega) (S []).np
    rw [Nat.zero_add] at this
    rw [this]
    rfl
/-- May a shape be? -/
def mayS (S : St) : Bool := decide (0 ≤ sleft 16 S 8192)
theorem mayS_ms {S : St} (h : mayS S = true) : MS 16 S := ⟨8192, by omega, of_decide_eq_true h⟩
end Go.Proofs.YtgmndjbicandfaaDoor
