/-
  What is read is the form of what was read; a form that is turned is not read as before.
-/
import Derived.Test.YtlfmekjkgegclabHo
namespace Go.Proofs.Ytlfmekjkgegclab
open Go.RowKit
theorem chp_read {f : Nat → Nat} {n v s : Nat} (hf : ∀ i, i < n → f i < 256) (h : RdOk f n v s) : ∀ j, j < 1 + (s + v) → chp (f 0) (fun j => f (1 + (s + j))) v s j = f j := by
  have hfit := h.fits
  obtain ⟨hn, hb⟩ := h.num.nf (fun i hi => hf _ (by omega))
  intro j hj
  unfold chp
  by_cases h0 : j < 1
  · rw [cat_low h0]
    congr 1
    omega
  · rw [cat_high (by omega)]
    unfold txf
    by_cases h1 : j - 1 < s
    · rw [cat_low h1, ← hb _ h1]
      show f (1 + (j - 1)) = f j
      congr 1
      omega
    · rw [cat_high (by omega)]
      show f (1 + (s + (j - 1 - s))) = f j
      congr 1
      omega
/-- What Read reads is the form of what it tells. -/
theorem chf_read {f : Nat → Nat} {n v s : Nat} (hf : ∀ i, i < n → f i < 256) (h : RdOk f n v s) : ∀ j, j < 1 + (s + v) + 4 → chf (f 0) (fun j => f (1 + (s + j))) v s j = f j := by
  intro j hj
  have hc : cs (chp (f 0) (fun j => f (1 + (s + j))) v s) (1 + (s + v)) = cs f (1 + (s + v)) := cs_congr (chp_read hf h)
  unfold chf
  rw [hc]
  by_cases h0 : j < 1 + (s + v)
  · rw [cat_low h0]
    exact chp_read hf h j h0
  · rw [cat_high (by omega), ← h.sum _ (by omega)]
    congr 1
    omega
theorem RdOk.nf {f : Nat → Nat} {n v s : Nat} (hf : ∀ i, i < n → f i < 256) (h : RdOk f n v s) : NF v s := (h.num.nf (fun i hi => hf _ (by have := h.fits; omega))).1
theorem txf_congr {f g : Nat → Nat} {n L : Nat} (h : ∀ i, i < n → f i = g i) : ∀ j, j < L + n → txf f n L j = txf g n L j := fun j hj => by
  unfold txf
  by_cases h0 : j < L
  · rw [cat_low h0, cat_low h0]
  · rw [cat_high (by omega), cat_high (by omega), h _ (by omega)]
theorem chp_congr {tag : Nat} {f g : Nat → Nat} {n L : Nat} (h : ∀ i, i < n → f i = g i) : ∀ j, j < 1 + (L + n) → chp tag f n L j = chp tag g n L j := fun j hj => by
  unfold chp
  by_cases h0 : j < 1
  · rw [cat_low h0, cat_low h0]
  · rw [cat_high (by omega), cat_high (by omega), txf_congr h _ (by omega)]
theorem chf_congr {tag : Nat} {f g : Nat → Nat} {n L : Nat} (h : ∀ i, i < n → f i = g i) : ∀ j, j < 1 + (L + n) + 4 → chf tag f n L j = chf tag g n L j := fun j hj => by
  unfold chf
  rw [cs_congr (chp_congr h)]
  by_cases h0 : j < 1 + (L + n)
  · rw [cat_low h0, cat_low h0]
    exact chp_congr h j h0
  · rw [cat_high (by omega), cat_high (by omega)]
/-- Of a chunk's form in which one byte is another one: what is read, if anything, is another chunk. -/
theorem turned {tag n L v s q y : Nat} {g f : Nat → Nat} (hL : NF n L) (hq : q < 1 + (L + n) + 4) (hf : ∀ i, i < 1 + (L + n) + 4 → f i < 256) (he : ∀ i, i < 1 + (L + n) + 4 → f i = if i = q then y else chf tag g n L i) (hy : y ≠ chf tag g n L q) (h : RdOk f (1 + (L + n) + 4) v s) : likeC tag (f 0) n v g (fun j => f (1 + (s + j))) = false := by
  cases hl : likeC tag (f 0) n v g (fun j => f (1 + (s + j))) with
  | false => rfl
  | true =>
    exfalso
    unfold likeC sameB at hl
    simp only [Bool.and_eq_true, decide_eq_true_eq] at hl
    obtain ⟨h1, h2, h3⟩ := hl
    have hs := h.nf hf
    rw [← h2] at hs
    have e := hs.one hL
    subst e
    subst h2
    have h4 := chf_read hf h q hq
    rw [← h1, ← chf_congr h3 q hq, he q hq, if_pos rfl] at h4
    exact hy h4.symm
end Go.Proofs.Ytlfmekjkgegclab
