/-
  What BuildTops needs: Systematic makes the same lists, and is itself once more.
-/
import Derived.Test.YtblfldjlehjnbabGv
namespace Go.Proofs.Ytblfldjlehjnbab
open Go.RowKit
theorem prk_idf {F : Nat → Nat} {r c n : Nat} (hF : ∀ i, i < n → F i < 256) (R : Rt r c n) : ∀ p, p < n → prk F (idf c) c c c p = F p := fun p hp => by
  obtain ⟨i, j, hi, hj, rfl⟩ := place_of R hp
  rw [prk_at F (idf c) c c i j hj]
  have h1 := apf_idf (X := fun t => F (i * c + t)) (n := c) (fun t ht => hF _ (R.at hi ht)) j hj
  rw [← h1]
  refine xs_congr fun t ht => ?_
  dsimp only
  rw [fm_comm _ _ (hF _ (R.at hi ht)) (idf_lt _ _), idf_at c t j ht hj, idf_at c j t hj ht]
  by_cases e : t = j
  · rw [if_pos e, if_pos e.symm]
  · rw [if_neg e, if_neg (Ne.symm e)]
theorem m2_idf {c i j : Nat} (hi : i < c) (hj : j < c) : m2 (idf c) c c i j = dl i j := by
  rw [m2_at _ hi hj, idf_at c i j hi hj]
  unfold dl
  by_cases e : i = j
  · rw [if_pos e, if_pos e.symm]
  · rw [if_neg e, if_neg (Ne.symm e)]
theorem rk_ident {F : Nat → Nat} {c N : Nat} (R : Rt c c N) (hF : ∀ i, i < N → F i < 256) (h : ∀ i j, i < c → j < c → m2 F c c i j = dl i j) : Rk (m2 F c c) c c :=
  rk_of_ker (m2_el hF R) (fun i j _ hj => m2_cut F hj) (fun x hx h0 j hj => by
    rw [← dt_dl hj hx, ← h0 j hj]
    exact dt_congr (fun t ht => (h j t hj ht).symm))
theorem pr_ident {F : Nat → Nat} {c : Nat} (h : ∀ i j, i < c → j < c → m2 F c c i j = dl i j) : ∀ i j, i < c → j < c → pr (m2 F c c) (m2 (idf c) c c) c i j = dl i j := fun i j hi hj => by
  have h1 : pr (m2 F c c) (m2 (idf c) c c) c i j = dt (dl i) (fun t => dl t j) c := xs_congr fun t ht => by rw [h i t hi ht, m2_idf ht hj]
  rw [h1]
  exact dt_dl hi (fun t => dl_el t j)
theorem sys_top {F X : Nat → Nat} {r c n : Nat} (R : Rt r c n) (hcr : c ≤ r) (hI : ∀ i j, i < c → j < c → pr (m2 F c c) (m2 X c c) c i j = dl i j) : ∀ i j, i < c → j < c → m2 (prk F X c c c) c c i j = dl i j := fun i j hi hj => by
  have _ := R
  have _ := hcr
  rw [← hI i j hi hj]
  exact m2_prk F X i j hi
/-- Systematic once more is itself. -/
theorem sys_twice {F X : Nat → Nat} {r c n : Nat} (hF : ∀ i, i < n → F i < 256) (R : Rt r c n) (hcr : c ≤ r) (hI : ∀ i j, i < c → j < c → pr (m2 F c c) (m2 X c c) c i j = dl i j) (w : World) (k : Nat) (a : Option Addr) (ha : Mt w a n k (prk F X c c c)) :
    Calls Try.prog 5 #[mv r c a n k] w fun e w' => MAns w w' e r c n (prk F X c c c) 0 := by
  have hP := prk_all X hF R R
  have hlen : c * c ≤ n := by rw [← R.len]; exact Nat.mul_le_mul_right c hcr
  have hk := rk_ident (F := prk F X c c c) ⟨R.c64, R.c64, rfl⟩ (fun i hi => hP i (Nat.lt_of_lt_of_le hi hlen)) (sys_top R hcr hI)
  refine (bsys_ok w r c n k a _ ha R hcr hk).mono (fun e w' h => ?_)
  obtain ⟨s, d, he, hm, hb⟩ := sys_ans R hcr hP hk (fun q _ => idf_lt c q) (pr_ident (sys_top R hcr hI)) h
  exact ⟨s, d, he, hm.congr (prk_idf hP R), hb⟩
/-- Systematic makes the same lists. -/
theorem sys_span {F X : Nat → Nat} {r c n : Nat} (hF : ∀ i, i < n → F i < 256) (R : Rt r c n) (hcr : c ≤ r) (hk : Rk (m2 F c c) c c) (hX : ∀ q, q < c * c → X q < 256) (hI : ∀ i j, i < c → j < c → pr (m2 F c c) (m2 X c c) c i j = dl i j) : SpEq (m2 (trf (prk F X c c c) r c) c r) c (m2 (trf F r c) c r) c := by
  have hlen : c * c ≤ n := by rw [← R.len]; exact Nat.mul_le_mul_right c hcr
  have hF2 : ∀ i, i < c * c → F i < 256 := fun i hi => hF i (Nat.lt_of_lt_of_le hi hlen)
  have Rc : Rt c c (c * c) := ⟨R.c64, R.c64, rfl⟩
  have hP := prk_all X hF R R
  constructor
  · intro i hi
    refine ⟨ext0 (fun t => X (t * c + i)) c, ext0_el (fun t ht => hX _ (Rc.at ht hi)), fun j => ?_⟩
    by_cases hj : j < r
    · rw [m2_trf _ i j hi hj, m2_at _ hj hi, prk_at F X c c j i hi]
      refine xs_congr fun t ht => ?_
      unfold ext0
      rw [if_pos ht, m2_trf F t j ht hj, m2_at _ hj ht, fm_comm _ _ (hF _ (R.at hj ht)) (hX _ (Rc.at ht hi))]
    · rw [m2_cut _ (by omega)]
      refine (xs_zero fun t ht => ?_).symm
      rw [m2_cut _ (by omega)]
      exact fm_zero _
  · intro i hi
    refine ⟨ext0 (fun t => F (t * c + i)) c, ext0_el (fun t ht => hF2 _ (Rc.at ht hi)), fun j => ?_⟩
    by_cases hj : j < r
    · have h1 : xs (fun t => fm (ext0 (fun t => F (t * c + i)) c t) (m2 (trf (prk F X c c c) r c) c r t j)) c = prk (prk F X c c c) F c c c (j * c + i) := by
        rw [prk_at _ F c c j i hi]
        refine xs_congr fun t ht => ?_
        unfold ext0
        rw [if_pos ht, m2_trf _ t j ht hj, m2_at _ hj ht, fm_comm _ _ (hF2 _ (Rc.at ht hi)) (hP _ (R.at hj ht))]
      show _ = xs _ c
      rw [h1, m2_trf F i j hi hj, m2_at _ hj hi]
      have h2 := prk_assoc (H := F) hF hX R Rc R (j * c + i) (R.at hj hi)
      rw [h2]
      have h3 := (inv_both hF2 hX Rc hk hI).2
      rw [prk_same (H := idf c) h3 (by omega)]
      exact (prk_idf hF R _ (R.at hj hi)).symm
    · rw [m2_cut _ (by omega)]
      refine (xs_zero fun t ht => ?_).symm
      rw [m2_cut _ (by omega)]
      exact fm_zero _
end Go.Proofs.Ytblfldjlehjnbab
