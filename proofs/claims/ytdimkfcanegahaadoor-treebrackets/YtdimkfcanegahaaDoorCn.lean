/-
  Stage 10: rows of expressions and shapes are told by their texts. No Go in sight.
-/
import Derived.Test.YtdimkfcanegahaaDoorCm
import Derived.Test.YtdimkfcanegahaaDoorCc
namespace Go.Proofs.YtdimkfcanegahaaDoor
open Go.RowKit
/-- The bytes of n expressions from i on, a comma between two. -/
def rtr (d : Nat) (F : Nat → Xt) : Nat → Nat → List UInt8
  | 0, _ => []
  | n + 1, i => xby d (F i) ++ (if n = 0 then [] else 32 :: 44 :: 32 :: rtr d F n (i + 1))
/-- What follows a row: a blank, and no comma. -/
def Stq (r : List UInt8) : Prop := ∃ c r', r = 32 :: c :: r' ∧ c ≠ 44
theorem Stq.stp {r : List UInt8} (h : Stq r) : Stp r := by
  obtain ⟨c, r', rfl, _⟩ := h
  exact .inr ⟨_, rfl⟩
theorem rtr_one (d : Nat) (F G : Nat → Xt) : ∀ (n m i j : Nat) (r s : List UInt8), 1 ≤ n → 1 ≤ m → (∀ k, k < n → MX d (F (i + k))) → (∀ k, k < m → MX d (G (j + k))) → Stq r → Stq s → rtr d F n i ++ r = rtr d G m j ++ s → n = m ∧ (∀ k, k < n → xlk d (F (i + k)) (G (j + k))) ∧ r = s := by
  intro n
  induction n with
  | zero => intro m i j r s h; omega
  | succ n ih =>
    intro m i j r s _ hm hF hG hr hs e
    cases m with
    | zero => omega
    | succ m =>
      have e1 : xby d (F i) ++ ((if n = 0 then [] else 32 :: 44 :: 32 :: rtr d F n (i + 1)) ++ r) = xby d (G j) ++ ((if m = 0 then [] else 32 :: 44 :: 32 :: rtr d G m (j + 1)) ++ s) := by
        rw [← List.append_assoc, ← List.append_assoc]
        exact e
      have st : ∀ (n i : Nat) (H : Nat → Xt) (q : List UInt8), Stq q → Stp ((if n = 0 then [] else 32 :: 44 :: 32 :: rtr d H n (i + 1)) ++ q) := fun n i H q hq => by
        split
        · exact hq.stp
        · exact .inr ⟨_, rfl⟩
      obtain ⟨h1, h2⟩ := xby_one d _ _ _ _ (by have := hF 0 (by omega); exact this) (by have := hG 0 (by omega); exact this) (st n i F r hr) (st m j G s hs) e1
      by_cases hn : n = 0
      · by_cases hm0 : m = 0
        · subst hn hm0
          rw [if_pos rfl, if_pos rfl] at h2
          refine ⟨rfl, fun k hk => ?_, h2⟩
          obtain rfl : k = 0 := by omega
          exact h1
        · rw [if_pos hn, if_neg hm0] at h2
          obtain ⟨c, r', rfl, hc⟩ := hr
          injection h2 with h3 h4
          injection h4 with h5 h6
          exact absurd h5 hc
      · by_cases hm0 : m = 0
        · rw [if_neg hn, if_pos hm0] at h2
          obtain ⟨c, r', rfl, hc⟩ := hs
          injection h2 with h3 h4
          injection h4 with h5 h6
          exact absurd h5.symm hc
        · rw [if_neg hn, if_neg hm0] at h2
          have h3 : rtr d F n (i + 1) ++ r = rtr d G m (j + 1) ++ s := List.append_cancel_left (show [32, 44, 32] ++ (rtr d F n (i + 1) ++ r) = [32, 44, 32] ++ (rtr d G m (j + 1) ++ s) from h2)
          obtain ⟨g1, g2, g3⟩ := ih m (i + 1) (j + 1) r s (by omega) (by omega) (fun k hk => by have := hF (k + 1) (by omega); rw [show i + (k + 1) = i + 1 + k by omega] at this; exact this) (fun k hk => by have := hG (k + 1) (by omega); rw [show j + (k + 1) = j + 1 + k by omega] at this; exact this) hr hs h3
          refine ⟨by omega, fun k hk => ?_, g3⟩
          cases k with
          | zero => exact h1
          | succ k =>
            have := g2 k (by omega)
            rw [show i + (k + 1) = i + 1 + k by omega, show j + (k + 1) = j + 1 + k by omega]
            exact this
/-- The bytes of n rows from i on, a semicolon between two. -/
def mtr (len : Nat → Nat) (F : Nat → Nat → Xt) : Nat → Nat → List UInt8
  | 0, _ => []
  | n + 1, i => rtr 16 (F i) (len i) 0 ++ (if n = 0 then [] else 32 :: 59 :: 32 :: mtr len F n (i + 1))
/-- What follows the rows: a blank, and neither a comma nor a semicolon. -/
def Stm (r : List UInt8) : Prop := ∃ c r', r = 32 :: c :: r' ∧ c ≠ 44 ∧ c ≠ 59
theorem Stm.stq {r : List UInt8} (h : Stm r) : Stq r := by
  obtain ⟨c, r', rfl, h, _⟩ := h
  exact ⟨c, r', rfl, h⟩
theorem mtr_one (len len' : Nat → Nat) (F G : Nat → Nat → Xt) : ∀ (n m i j : Nat) (r s : List UInt8), 1 ≤ n → 1 ≤ m → (∀ k, k < n → 1 ≤ len (i + k) ∧ ∀ q, q < len (i + k) → MX 16 (F (i + k) q)) → (∀ k, k < m → 1 ≤ len' (j + k) ∧ ∀ q, q < len' (j + k) → MX 16 (G (j + k) q)) → Stm r → Stm s → mtr len F n i ++ r = mtr len' G m j ++ s → n = m ∧ (∀ k, k < n → len (i + k) = len' (j + k) ∧ ∀ q, q < len (i + k) → xlk 16 (F (i + k) q) (G (j + k) q)) ∧ r = s := by
  intro n
  induction n with
  | zero => intro m i j r s h; omega
  | succ n ih =>
    intro m i j r s _ hm hF hG hr hs e
    cases m with
    | zero => omega
    | succ m =>
      have e1 : rtr 16 (F i) (len i) 0 ++ ((if n = 0 then [] else 32 :: 59 :: 32 :: mtr len F n (i + 1)) ++ r) = rtr 16 (G j) (len' j) 0 ++ ((if m = 0 then [] else 32 :: 59 :: 32 :: mtr len' G m (j + 1)) ++ s) := by
        rw [← List.append_assoc, ← List.append_assoc]
        exact e
      have st : ∀ (n i : Nat) (l : Nat → Nat) (H : Nat → Nat → Xt) (q : List UInt8), Stm q → Stq ((if n = 0 then [] else 32 :: 59 :: 32 :: mtr l H n (i + 1)) ++ q) := fun n i l H q hq => by
        split
        · exact hq.stq
        · exact ⟨_, _, rfl, by decide⟩
      have f0 := hF 0 (by omega)
      have g0 := hG 0 (by omega)
      rw [Nat.add_zero] at f0 g0
      obtain ⟨h0, h1, h2⟩ := rtr_one 16 (F i) (G j) (len i) (len' j) 0 0 _ _ f0.1 g0.1 (fun k hk => by rw [Nat.zero_add]; exact f0.2 k hk) (fun k hk => by rw [Nat.zero_add]; exact g0.2 k hk) (st n i len F r hr) (st m j len' G s hs) e1
      have h1' : ∀ q, q < len i → xlk 16 (F i q) (G j q) := fun q hq => by have := h1 q hq; rw [Nat.zero_add] at this; exact this
      by_cases hn : n = 0
      · by_cases hm0 : m = 0
        · subst hn hm0
          rw [if_pos rfl, if_pos rfl] at h2
          refine ⟨rfl, fun k hk => ?_, h2⟩
          obtain rfl : k = 0 := by omega
          exact ⟨h0, h1'⟩
        · rw [if_pos hn, if_neg hm0] at h2
          obtain ⟨c, r', rfl, _, hc⟩ := hr
          injection h2 with h3 h4
          injection h4 with h5 h6
          exact absurd h5 hc
      · by_cases hm0 : m = 0
        · rw [if_neg hn, if_pos hm0] at h2
          obtain ⟨c, r', rfl, _, hc⟩ := hs
          injection h2 with h3 h4
          injection h4 with h5 h6
          exact absurd h5.symm hc
        · rw [if_neg hn, if_neg hm0] at h2
          have h3 : mtr len F n (i + 1) ++ r = mtr len' G m (j + 1) ++ s := List.append_cancel_left (show [32, 59, 32] ++ (mtr len F n (i + 1) ++ r) = [32, 59, 32] ++ (mtr len' G m (j + 1) ++ s) from h2)
          obtain ⟨g1, g2, g3⟩ := ih m (i + 1) (j + 1) r s (by omega) (by omega) (fun k hk => by have := hF (k + 1) (by omega); rw [show i + (k + 1) = i + 1 + k by omega] at this; exact this) (fun k hk => by have := hG (k + 1) (by omega); rw [show j + (k + 1) = j + 1 + k by omega] at this; exact this) hr hs h3
          refine ⟨by omega, fun k hk => ?_, g3⟩
          cases k with
          | zero => exact ⟨h0, h1'⟩
          | succ k =>
            have := g2 k (by omega)
            rw [show i + (k + 1) = i + 1 + k by omega, show j + (k + 1) = j + 1 + k by omega]
            exact this
theorem rtr_snoc (d : Nat) (F : Nat → Xt) : ∀ n i, rtr d F (n + 1) i = (if n = 0 then [] else rtr d F n i ++ [32, 44, 32]) ++ xby d (F (i + n)) := by
  intro n
  induction n with
  | zero => intro i; show xby d (F i) ++ [] = [] ++ _; simp
  | succ n ih =>
    intro i
    have e : rtr d F (n + 1 + 1) i = xby d (F i) ++ (32 :: 44 :: 32 :: rtr d F (n + 1) (i + 1)) := by
      show xby d (F i) ++ (if n + 1 = 0 then [] else _) = _
      rw [if_neg (by omega)]
    have e2 : rtr d F (n + 1) i = xby d (F i) ++ (if n = 0 then [] else 32 :: 44 :: 32 :: rtr d F n (i + 1)) := rfl
    rw [e, ih (i + 1), if_neg (show ¬ n + 1 = 0 by omega), e2, show i + 1 + n = i + (n + 1) by omega]
    by_cases h : n = 0
    · subst h
      simp
    · rw [if_neg h, if_neg h]
      simp
theorem mtr_snoc (len : Nat → Nat) (F : Nat → Nat → Xt) : ∀ n i, mtr len F (n + 1) i = (if n = 0 then [] else mtr len F n i ++ [32, 59, 32]) ++ rtr 16 (F (i + n)) (len (i + n)) 0 := by
  intro n
  induction n with
  | zero => intro i; show rtr 16 (F i) (len i) 0 ++ [] = [] ++ _; simp
  | succ n ih =>
    intro i
    have e : mtr len F (n + 1 + 1) i = rtr 16 (F i) (len i) 0 ++ (32 :: 59 :: 32 :: mtr len F (n + 1) (i + 1)) := by
      show rtr 16 (F i) (len i) 0 ++ (if n + 1 = 0 then [] else _) = _
      rw [if_neg (by omega)]
    have e2 : mtr len F (n + 1) i = rtr 16 (F i) (len i) 0 ++ (if n = 0 then [] else 32 :: 59 :: 32 :: mtr len F n (i + 1)) := rfl
    rw [e, ih (i + 1), if_neg (show ¬ n + 1 = 0 by omega), e2, show i + 1 + n = i + (n + 1) by omega]
    by_cases h : n = 0
    · subst h
      simp
    · rw [if_neg h, if_neg h]
      simp
end Go.Proofs.YtdimkfcanegahaaDoor
