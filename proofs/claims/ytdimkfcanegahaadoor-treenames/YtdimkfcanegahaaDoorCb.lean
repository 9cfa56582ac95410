/-
  Stage 10: what may be, depths and texts of expressions. No Go in sight.
-/
import Derived.Test.YtdimkfcanegahaaDoorCa
import Derived.Lib.ItoaLen
namespace Go.Proofs.YtdimkfcanegahaaDoor
open Go.RowKit
/-- An expression may be, d deep at most. -/
def MX (d : Nat) (T : Xt) : Prop := ∃ left : Int, left ≤ 8192 ∧ 0 ≤ xleft d T left
theorem xwant_len {l : Lx} {m : Nat} (h : xwant l = some m) : l.len = m ∧ m ≤ 2 := by
  unfold xwant at h
  split at h
  · split at h
    · rename_i g; cases h; exact ⟨g.2.2.2, by omega⟩
    · cases h
  · split at h
    · split at h
      · rename_i g; cases h; exact ⟨g.2.2, by omega⟩
      · cases h
    · split at h
      · split at h
        · rename_i g; cases h; exact ⟨g.2.2, by omega⟩
        · cases h
      · split at h
        · split at h
          · rename_i g; cases h; exact ⟨g.2.2, by omega⟩
          · cases h
        · cases h
theorem xks_mid {f : Xt → Int → Int} {F : Nat → Xt} {m : Nat} {left : Int} (h : 0 ≤ xks f F m left) : ∀ i, i ≤ m → 0 ≤ xks f F i left := by
  intro i hi
  rcases Int.lt_or_le (xks f F i left) 0 with g | g
  · have := xks_stop g (m - i)
    rw [show i + (m - i) = m by omega] at this
    omega
  · exact g
/-- What holds of the parts of what may be. -/
theorem xleft_parts {d : Nat} {T : Xt} {left : Int} (h : 0 ≤ xleft (d + 1) T left) : ∃ m, xwant (T []) = some m ∧ 1 ≤ left ∧ xleft (d + 1) T left = xks (xleft d) (kid T) m (left - 1) ∧ ∀ i, i < m → 0 ≤ xks (xleft d) (kid T) i (left - 1) ∧ 0 ≤ xleft d (kid T i) (xks (xleft d) (kid T) i (left - 1)) := by
  have e : xleft (d + 1) T left = if left - 1 < 0 then -1 else match xwant (T []) with | none => -1 | some m => xks (xleft d) (kid T) m (left - 1) := rfl
  rw [e] at h ⊢
  split at h
  · omega
  · rename_i hl
    rw [if_neg hl]
    cases hw : xwant (T []) with
    | none =>
      rw [hw] at h
      have h : (0 : Int) ≤ -1 := h
      omega
    | some m =>
      rw [hw] at h
      refine ⟨m, rfl, by omega, rfl, fun i hi => ?_⟩
      have h1 := xks_mid h i (by omega)
      have h2 := xks_mid h (i + 1) (by omega)
      rw [xks_succ, if_neg (by omega)] at h2
      exact ⟨h1, h2⟩
theorem xks_top {f : Xt → Int → Int} {F : Nat → Xt} (hf : ∀ T l, 0 ≤ l → -1 ≤ f T l ∧ f T l ≤ l) {left : Int} (h0 : 0 ≤ left) (k : Nat) : xks f F k left ≤ left := (xks_le hf k left h0).2
theorem MX.kid {d : Nat} {T : Xt} (h : MX (d + 1) T) {i : Nat} (hi : i < (T []).len) : MX d (Go.Proofs.YtdimkfcanegahaaDoor.kid T i) := by
  obtain ⟨left, hl, h⟩ := h
  obtain ⟨m, hw, h1, _, hk⟩ := xleft_parts h
  obtain ⟨g1, g2⟩ := hk i (by rw [← (xwant_len hw).1]; exact hi)
  refine ⟨_, ?_, g2⟩
  have := xks_top (F := Go.Proofs.YtdimkfcanegahaaDoor.kid T) (xleft_le d) (left := left - 1) (by omega) i
  omega
/-- How deep an expression is. -/
def xmx (f : Xt → Nat) (F : Nat → Xt) : Nat → Nat
  | 0 => 0
  | k + 1 => max (xmx f F k) (f (F k))
def xdeep : Nat → Xt → Nat
  | 0, _ => 0
  | d + 1, T => xmx (xdeep d) (kid T) (T []).len + 1
theorem xmx_le {f : Xt → Nat} {F : Nat → Xt} {b : Nat} : ∀ k, (∀ i, i < k → f (F i) ≤ b) → xmx f F k ≤ b := by
  intro k
  induction k with
  | zero => intro _; exact Nat.zero_le _
  | succ k ih =>
    intro h
    have h1 := ih (fun i hi => h i (by omega))
    have h2 := h k (by omega)
    show max _ _ ≤ b
    omega
theorem xdeep_le : ∀ d T, xdeep d T ≤ d := by
  intro d
  induction d with
  | zero => intro T; exact Nat.le_refl _
  | succ d ih =>
    intro T
    have := xmx_le (f := xdeep d) (F := kid T) (b := d) (T []).len (fun i _ => ih _)
    show _ + 1 ≤ _
    omega
/-- The sign between two parts. -/
def opb (k : Nat) : ByteArray := if k = 4 then ⟨#[43]⟩ else if k = 5 then ⟨#[45]⟩ else if k = 6 then ⟨#[42]⟩ else if k = 7 then ⟨#[47]⟩ else ⟨#[37]⟩
theorem opb_size (k : Nat) : (opb k).size = 1 := by
  unfold opb
  repeat' split
  all_goals rfl
/-- The text of an expression. -/
def xtext : Nat → Xt → ByteArray
  | 0, _ => ⟨#[]⟩
  | d + 1, T => if (T []).k = 1 then ⟨(Lib.itoa (T []).n).toArray⟩ else if (T []).k = 2 then (T []).nm else if (T []).k = 3 then ⟨#[45, 32]⟩ ++ xtext d (kid T 0)
    else ⟨#[40, 32]⟩ ++ xtext d (kid T 0) ++ ⟨#[32]⟩ ++ opb (T []).k ++ ⟨#[32]⟩ ++ xtext d (kid T 1) ++ ⟨#[32, 41]⟩
theorem xtext_succ (d : Nat) (T : Xt) : xtext (d + 1) T = if (T []).k = 1 then ⟨(Lib.itoa (T []).n).toArray⟩ else if (T []).k = 2 then (T []).nm else if (T []).k = 3 then ⟨#[45, 32]⟩ ++ xtext d (kid T 0)
    else ⟨#[40, 32]⟩ ++ xtext d (kid T 0) ++ ⟨#[32]⟩ ++ opb (T []).k ++ ⟨#[32]⟩ ++ xtext d (kid T 1) ++ ⟨#[32, 41]⟩ := rfl
theorem xwant_cases {l : Lx} {m : Nat} (h : xwant l = some m) : (l.k = 1 ∧ m = 0 ∧ 0 ≤ l.n ∧ l.n ≤ 2147483647 ∧ l.nm.size = 0) ∨ (l.k = 2 ∧ m = 0 ∧ l.n = 0 ∧ isN l.nm = true) ∨ (l.k = 3 ∧ m = 1 ∧ l.n = 0 ∧ l.nm.size = 0) ∨ (4 ≤ l.k ∧ l.k ≤ 8 ∧ m = 2 ∧ l.n = 0 ∧ l.nm.size = 0) := by
  unfold xwant at h
  split at h
  · rename_i hk
    split at h
    · rename_i g; cases h; exact .inl ⟨hk, rfl, g.1, g.2.1, g.2.2.1⟩
    · cases h
  · split at h
    · rename_i hk
      split at h
      · rename_i g; cases h; exact .inr (.inl ⟨hk, rfl, g.1, g.2.1⟩)
      · cases h
    · split at h
      · rename_i hk
        split at h
        · rename_i g; cases h; exact .inr (.inr (.inl ⟨hk, rfl, g.1, g.2.1⟩))
        · cases h
      · split at h
        · rename_i hk
          split at h
          · rename_i g; cases h; exact .inr (.inr (.inr ⟨hk.1, hk.2, rfl, g.1, g.2.1⟩))
          · cases h
        · cases h
/-- A text is not longer than 21 bytes for each node. -/
theorem xtext_size : ∀ d T left, 0 ≤ xleft d T left → ((xtext d T).size : Int) ≤ 21 * (left - xleft d T left) := by
  intro d
  induction d with
  | zero => intro T left h; rw [xleft_zero] at h; omega
  | succ d ih =>
    intro T left h
    obtain ⟨m, hw, h1, he, hk⟩ := xleft_parts h
    rw [he]
    have e : xtext (d + 1) T = if (T []).k = 1 then ⟨(Lib.itoa (T []).n).toArray⟩ else if (T []).k = 2 then (T []).nm else if (T []).k = 3 then ⟨#[45, 32]⟩ ++ xtext d (kid T 0)
      else ⟨#[40, 32]⟩ ++ xtext d (kid T 0) ++ ⟨#[32]⟩ ++ opb (T []).k ++ ⟨#[32]⟩ ++ xtext d (kid T 1) ++ ⟨#[32, 41]⟩ := rfl
    rw [e]
    rcases xwant_cases hw with ⟨k1, rfl, n1, n2, _⟩ | ⟨k2, rfl, _, hN⟩ | ⟨k3, rfl, _, _⟩ | ⟨k4, k8, rfl, _, _⟩
    · rw [if_pos k1, xks_zero]
      have := Lib.itoa_length_le (T []).n (by omega) (by omega)
      show ((Lib.itoa (T []).n).toArray.size : Int) ≤ _
      rw [List.size_toArray]
      omega
    · rw [if_neg (by omega), if_pos k2, xks_zero]
      have := (isN_iff.1 hN).most
      omega
    · rw [if_neg (by omega), if_neg (by omega), if_pos k3]
      obtain ⟨g1, g2⟩ := hk 0 (by omega)
      have h3 := ih _ _ g2
      rw [xks_succ, if_neg (by omega)]
      rw [xks_zero] at *
      rw [ByteArray.size_append]
      have : (⟨#[45, 32]⟩ : ByteArray).size = 2 := rfl
      omega
    · rw [if_neg (by omega), if_neg (by omega), if_neg (by omega)]
      obtain ⟨g1, g2⟩ := hk 0 (by omega)
      obtain ⟨g3, g4⟩ := hk 1 (by omega)
      have h3 := ih _ _ g2
      have h4 := ih _ _ g4
      rw [xks_succ _ _ 1, if_neg (by omega)]
      rw [xks_succ _ _ 0, if_neg (by omega)] at *
      rw [xks_zero] at *
      simp only [ByteArray.size_append, opb_size]
      have e1 : (⟨#[40, 32]⟩ : ByteArray).size = 2 := rfl
      have e2 : (⟨#[32]⟩ : ByteArray).size = 1 := rfl
      have e3 : (⟨#[32, 41]⟩ : ByteArray).size = 2 := rfl
      omega
theorem MX.size {d : Nat} {T : Xt} (h : MX d T) : (xtext d T).size ≤ 172032 := by
  obtain ⟨left, hl, h⟩ := h
  have := xtext_size d T left h
  omega
end Go.Proofs.YtdimkfcanegahaaDoor
