/-
  The mathematics of P9.4: what is joined is cut into the same.
-/
import Derived.Test.YtipjejkjoiifdaaDoorAs
namespace Go.Proofs.YtipjejkjoiifdaaDoor
open Go.RowKit
theorem ba_ext {a b : ByteArray} (hs : a.size = b.size) (h : ∀ i, i < a.size → tb a i = tb b i) : a = b := by
  obtain ⟨x⟩ := a
  obtain ⟨y⟩ := b
  congr 1
  refine Array.ext hs (fun i h1 h2 => ?_)
  have := h i h1
  unfold tb at this
  rw [dif_pos (show i < (ByteArray.mk x).size from h1), dif_pos (show i < (ByteArray.mk y).size from h2)] at this
  exact UInt8.toNat_inj.1 this
theorem tb_append {a b : ByteArray} {i : Nat} : tb (a ++ b) i = if i < a.size then tb a i else tb b (i - a.size) := by
  unfold tb
  by_cases h1 : i < a.size
  · rw [if_pos h1, dif_pos (show i < (a ++ b).size by rw [ByteArray.size_append]; omega), dif_pos h1, ByteArray.getElem_append_left h1]
  · rw [if_neg h1]
    by_cases h2 : i < a.size + b.size
    · rw [dif_pos (show i < (a ++ b).size by rw [ByteArray.size_append]; omega), dif_pos (show i - a.size < b.size by omega), ByteArray.getElem_append_right (by omega)]
    · rw [dif_neg (show ¬ i < (a ++ b).size by rw [ByteArray.size_append]; omega), dif_neg (show ¬ i - a.size < b.size by omega)]
/-- The bytes of what is joined. -/
theorem jn_spec (K : Nat → TV) : ∀ n, 0 < n → (jn K n).size + 1 = jz K n ∧ (∀ i, i < n → ∀ j, j < (frm (K i)).size → tb (jn K n) (jz K i + j) = tb (frm (K i)) j) ∧ ∀ i, i + 1 < n → tb (jn K n) (jz K i + (frm (K i)).size) = 32 := by
  intro n
  induction n with
  | zero => intro h; omega
  | succ n ih =>
    intro _
    rw [jn_succ, jz_succ]
    by_cases h0 : n = 0
    · subst h0
      rw [if_pos rfl]
      refine ⟨by rw [ByteArray.size_append]; show 0 + _ + 1 = 0 + _; omega, fun i hi j hj => ?_, fun i hi => by omega⟩
      obtain rfl : i = 0 := by omega
      rw [tb_append, if_neg (by show ¬ 0 + j < 0; omega)]
      congr 1
      show 0 + j - 0 = j
      omega
    · obtain ⟨h1, h2, h3⟩ := ih (by omega)
      rw [if_neg h0]
      have hs : (jn K n ++ ⟨#[32]⟩).size = jz K n := by rw [ByteArray.size_append]; exact h1
      refine ⟨by rw [ByteArray.size_append, hs]; omega, fun i hi j hj => ?_, fun i hi => ?_⟩
      · rw [tb_append, hs]
        by_cases e : i = n
        · subst e
          rw [if_neg (by omega)]
          congr 1
          omega
        · have hm := jz_mono K (i + 1) (n - (i + 1))
          rw [show i + 1 + (n - (i + 1)) = n by omega, jz_succ] at hm
          rw [if_pos (by omega), tb_append, if_pos (by omega)]
          exact h2 i (by omega) j hj
      · rw [tb_append, hs]
        have hm := jz_mono K (i + 1) (n - (i + 1))
        rw [show i + 1 + (n - (i + 1)) = n by omega, jz_succ] at hm
        rw [if_pos (by omega), tb_append]
        by_cases e : i + 1 = n
        · subst e
          rw [jz_succ] at h1
          rw [if_neg (by omega)]
          rw [show jz K i + (frm (K i)).size - (jn K (i + 1)).size = 0 by omega]
          rfl
        · have hm2 := jz_mono K (i + 1 + 1) (n - (i + 1 + 1))
          rw [show i + 1 + 1 + (n - (i + 1 + 1)) = n by omega, jz_succ K (i + 1), jz_succ] at hm2
          rw [if_pos (by omega)]
          exact h3 i (by omega)
/-- Decimal digits. -/
theorem dd_spec : ∀ u, (∀ b ∈ Lib.decDigits u, 48 ≤ b.toNat ∧ b.toNat ≤ 57) ∧ (10 ≤ u → ∃ b r, Lib.decDigits u = b :: r ∧ b.toNat ≠ 48 ∧ r ≠ []) ∧ (u < 10 → Lib.decDigits u = [UInt8.ofNat (48 + u)]) ∧ 1 ≤ (Lib.decDigits u).length := by
  intro u
  induction u using Nat.strongRecOn with
  | _ u ih =>
    by_cases h : u < 10
    · have e : Lib.decDigits u = [UInt8.ofNat (48 + u)] := by rw [Lib.decDigits, dif_pos h]
      have ht : (UInt8.ofNat (48 + u)).toNat = 48 + u := by simp; omega
      refine ⟨fun b hb => ?_, fun h' => by omega, fun _ => e, by rw [e]; simp⟩
      rw [e] at hb
      simp only [List.mem_singleton] at hb
      subst hb
      rw [ht]
      omega
    · have e : Lib.decDigits u = Lib.decDigits (u / 10) ++ [UInt8.ofNat (48 + u % 10)] := by rw [Lib.decDigits, dif_neg h]
      obtain ⟨i1, i2, i3, i4⟩ := ih (u / 10) (by omega)
      have ht : (UInt8.ofNat (48 + u % 10)).toNat = 48 + u % 10 := by simp; omega
      refine ⟨fun b hb => ?_, fun _ => ?_, fun h' => absurd h' h, by rw [e]; simp⟩
      · rw [e] at hb
        rcases List.mem_append.1 hb with hb | hb
        · exact i1 b hb
        · simp only [List.mem_singleton] at hb
          subst hb
          rw [ht]
          omega
      · by_cases h2 : u / 10 < 10
        · refine ⟨UInt8.ofNat (48 + u / 10), [UInt8.ofNat (48 + u % 10)], by rw [e, i3 h2]; rfl, ?_, by simp⟩
          have : (UInt8.ofNat (48 + u / 10)).toNat = 48 + u / 10 := by simp; omega
          rw [this]
          omega
        · obtain ⟨b, r, e2, hb, hr⟩ := i2 (by omega)
          exact ⟨b, r ++ [UInt8.ofNat (48 + u % 10)], by rw [e, e2]; rfl, hb, by simp⟩
theorem tb_list (l : List UInt8) (i : Nat) (h : i < l.length) : tb ⟨l.toArray⟩ i = (l[i]).toNat := by
  unfold tb
  rw [dif_pos (show i < (ByteArray.mk l.toArray).size from (by show i < l.toArray.size; simpa using h))]
  rfl
theorem nvl_dd : ∀ u, nvl ⟨(Lib.decDigits u).toArray⟩ 0 (Lib.decDigits u).length = u := by
  intro u
  induction u using Nat.strongRecOn with
  | _ u ih =>
    by_cases h : u < 10
    · have e : Lib.decDigits u = [UInt8.ofNat (48 + u)] := by rw [Lib.decDigits, dif_pos h]
      rw [e]
      show 10 * 0 + (tb _ (0 + 0) - 48) = u
      rw [tb_list _ _ (by simp)]
      have ht : (UInt8.ofNat (48 + u)).toNat = 48 + u := by simp; omega
      simp only [Nat.add_zero, List.getElem_cons_zero, ht]
      omega
    · have e : Lib.decDigits u = Lib.decDigits (u / 10) ++ [UInt8.ofNat (48 + u % 10)] := by rw [Lib.decDigits, dif_neg h]
      have hi := ih (u / 10) (by omega)
      obtain ⟨d, hd⟩ : ∃ d, Lib.decDigits (u / 10) = d := ⟨_, rfl⟩
      rw [hd] at e hi
      rw [e, List.length_append, List.length_singleton, nvl_succ]
      have hc : ∀ k, k ≤ d.length → nvl ⟨(d ++ [UInt8.ofNat (48 + u % 10)]).toArray⟩ 0 k = nvl ⟨d.toArray⟩ 0 k := by
        intro k
        induction k with
        | zero => intro _; rfl
        | succ k ihk =>
          intro hk
          rw [nvl_succ, nvl_succ, ihk (by omega), tb_list _ _ (by simp; omega), tb_list _ _ (by omega), List.getElem_append_left (by omega)]
      have ht : (UInt8.ofNat (48 + u % 10)).toNat = 48 + u % 10 := by simp; omega
      rw [hc _ (Nat.le_refl _), hi, tb_list _ _ (by simp)]
      have hg : (d ++ [UInt8.ofNat (48 + u % 10)])[0 + d.length]'(by simp) = UInt8.ofNat (48 + u % 10) := by
        rw [List.getElem_append_right (by omega)]
        simp
      rw [hg, ht]
      omega
theorem nd_le : ∀ d u, 1 ≤ d → u < 10 ^ d → (Lib.decDigits u).length ≤ d := by
  intro d
  induction d with
  | zero => intro u h; omega
  | succ d ih =>
    intro u _ hu
    by_cases h : u < 10
    · rw [Lib.decDigits, dif_pos h]; simp
    · rw [Lib.decDigits, dif_neg h, List.length_append, List.length_singleton]
      have h1 : 1 ≤ d := by
        rcases Nat.eq_zero_or_pos d with rfl | h'
        · rw [Nat.zero_add, Nat.pow_one] at hu; omega
        · exact h'
      have := ih (u / 10) h1 (by rw [Nat.pow_succ] at hu; omega)
      omega
end Go.Proofs.YtipjejkjoiifdaaDoor
