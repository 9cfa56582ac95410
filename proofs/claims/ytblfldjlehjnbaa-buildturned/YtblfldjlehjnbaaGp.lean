/-
  Products, what is sent, what is put together.
-/
import Derived.Test.YtblfldjlehjnbaaGo
namespace Go.Proofs.Ytblfldjlehjnbaa
open Go.RowKit
theorem m2_prk (F G : Nat → Nat) {ra ca cb : Nat} : ∀ i j, i < ra → m2 (prk F G ca cb ca) ra cb i j = pr (m2 F ra ca) (m2 G ca cb) ca i j := fun i j hi => by
  by_cases hj : j < cb
  · rw [m2_at _ hi hj, prk_at F G ca cb i j hj]
    exact xs_congr (fun t ht => by rw [m2_at F hi ht, m2_at G ht hj])
  · rw [m2_cut _ (by omega)]
    exact (xs_zero (fun t _ => by rw [m2_cut G (by omega), fm_zero])).symm
/-- The ranks of a product and of its factors. -/
theorem rk_prods {F G : Nat → Nat} {ra ca cb na nb n m k : Nat} {R : Nat → Nat → Nat} {p : Nat → Nat} (hF : ∀ i, i < na → F i < 256) (hG : ∀ i, i < nb → G i < 256) (RA : Rt ra ca na) (RB : Rt ca cb nb) (hn : Rk (m2 F ra ca) ra n) (hm : Rk (m2 G ca cb) ca m) (hk : Rk (m2 (prk F G ca cb ca) ra cb) ra k) (hE : El2 R) (hR : Rdf R ra n p) (hS : SpEq R ra (m2 F ra ca) ra) (hp : ∀ i, i < n → p i < ca) : k ≤ n ∧ k ≤ m ∧ n + m ≤ k + ca := by
  have hP : Rk (pr (m2 F ra ca) (m2 G ca cb) ca) ra k := hk.at (fun i j hi => (m2_prk F G i j hi).symm)
  exact ⟨rk_prod_l hn hP, rk_prod_r (m2_el hF RA) hm hP, rk_prod_ge (m2_el hF RA) (m2_el hG RB) hR hE hS hp hm hP⟩
/-- Either way the product with the inverse is the identity. -/
theorem inv_both {F O : Nat → Nat} {r n : Nat} (hF : ∀ i, i < n → F i < 256) (hO : ∀ i, i < n → O i < 256) (R : Rt r r n) (hk : Rk (m2 F r r) r r) (h : ∀ i j, i < r → j < r → pr (m2 F r r) (m2 O r r) r i j = dl i j) : (∀ p, p < n → prk F O r r r p = idf r p) ∧ ∀ p, p < n → prk O F r r r p = idf r p := by
  have hM := m2_el hF R
  obtain ⟨A, hA, hL, _⟩ := inv_ex hM (fun i j _ h => m2_cut F h) hk
  have e1 := inv_same hA hM (m2_el hO R) hL h
  have key : ∀ (P : Nat → Nat), (∀ i j, i < r → j < r → m2 P r r i j = dl i j) → ∀ p, p < n → P p = idf r p := fun P hP p hp => by
    obtain ⟨i, j, hi, hj, rfl⟩ := place_of R hp
    have := hP i j hi hj
    rw [m2_at P hi hj] at this
    rw [this, idf_at r i j hi hj]
    unfold dl
    by_cases e : j = i
    · rw [if_pos e, if_pos e.symm]
    · rw [if_neg e, if_neg (fun h => e h.symm)]
  refine ⟨key _ (fun i j hi hj => by rw [m2_prk F O i j hi]; exact h i j hi hj), key _ (fun i j hi hj => ?_)⟩
  rw [m2_prk O F i j hi, ← hL i j hi hj]
  exact lc_congr (fun t ht => (e1 i t hi ht).symm) (fun _ _ => rfl)
theorem el_span {F G : Nat → Nat} {r c : Nat} (hS : SpEq (m2 G r c) r (m2 F r c) r) : El2 (m2 G r c) := fun i j => by
  by_cases hi : i < r
  · exact (hS.1 i hi).el j
  · rw [m2_low G (by omega)]; decide
/-- A matrix that has no inverse sends something to nothing. -/
theorem ker_pos {r n t top kr : Nat} {F G p : Nat → Nat} (hF : ∀ i, i < n → F i < 256) (R : Rt r r n) (hk : Rk (m2 F r r) r t) (ht : t < r) (hR : Rdf (m2 G r r) r top p) (hS : SpEq (m2 G r r) r (m2 F r r) r) (hp : ∀ i, i < top → p i < r) (ek : kr = cnt (fre p top) r) : 0 < kr := by
  have h1 : top = t := rk_one hF R ((hR.rk (el_span hS)).span hS) hk
  have h2 : top + cnt (fre p top) r = r := cnt_free hR.up hp
  omega
theorem apf_trf {F X : Nat → Nat} {r c : Nat} (hF : El2 (m2 F r c)) (hX : ∀ i, i < r → X i < 256) : ∀ j, j < c → apf (trf F r c) X r j = lc X (m2 F r c) r j := fun j hj => by
  unfold apf
  exact xs_congr (fun t ht => by rw [trf_at F r c t j ht, ← m2_at F ht hj, fm_comm _ _ (hF t j) (hX t ht)])
/-- What is put together is a combination of the rows. -/
theorem puts_spn {F X : Nat → Nat} {r c n : Nat} (hF : ∀ i, i < n → F i < 256) (R : Rt r c n) (hX : ∀ i, i < r → X i < 256) : Spn (m2 F r c) r (ext0 (apf (trf F r c) X r) c) := by
  refine ⟨ext0 X r, ext0_el hX, fun j => ?_⟩
  have e : ∀ j, lc (ext0 X r) (m2 F r c) r j = lc X (m2 F r c) r j := fun j => lc_congr (fun t ht => if_pos ht) (fun _ _ => rfl)
  by_cases hj : j < c
  · rw [e, ← apf_trf (m2_el hF R) hX j hj]
    exact if_pos hj
  · rw [e]
    unfold ext0
    rw [if_neg hj]
    exact (xs_zero (fun t _ => by rw [m2_cut F (by omega), fm_zero])).symm
/-- What Combine answers, put together, is what was asked for. -/
theorem puts_back {F Y x : Nat → Nat} {r c n : Nat} (hF : ∀ i, i < n → F i < 256) (R : Rt r c n) (h : CmbA F Y r c x) : ∀ j, j < c → apf (trf F r c) x r j = Y j := fun j hj => by
  rw [apf_trf (m2_el hF R) (fun i _ => h.1.1 i) j hj, ← h.2 j]
  exact if_pos hj
theorem apf_dt {F X : Nat → Nat} {r c : Nat} : ∀ i, i < r → apf F X c i = dt (m2 F r c i) X c := fun i hi => xs_congr (fun t ht => by rw [m2_at F hi ht])
theorem sends_sol {F X : Nat → Nat} {r c : Nat} : Sol (m2 F r c) r c (ext0 (apf F X c) r) X := fun i hi => by
  rw [← apf_dt i hi]
  exact (if_pos hi).symm
theorem sends_back {F Y x : Nat → Nat} {r c : Nat} (h : SolA F Y r c x) : ∀ i, i < r → apf F x c i = Y i := fun i hi => by
  rw [apf_dt i hi, h.2.1 i hi]
  exact if_pos hi
/-- Kernel's rows are sent to nothing. -/
theorem sends_ker {F G H p : Nat → Nat} {r c top kr : Nat} (hR : Rdf (m2 G r c) r top p) (hS : SpEq (m2 G r c) r (m2 F r c) r) (hp : ∀ i, i < top → p i < c) (ek : kr = cnt (fre p top) c) (hH : ∀ u l, u < kr → l < c → H (u * c + l) = kv (m2 G r c) p top (nth (fre p top) c u) l) {u : Nat} (hu : u < kr) : ∀ i, i < r → apf F (fun j => H (u * c + j)) c i = 0 := fun i hi => by
  obtain ⟨h1, h2, _⟩ := nth_spec (fre p top) c u (by omega)
  have hpv : pvt p top (nth (fre p top) c u) = false := by
    generalize nth (fre p top) c u = q at h2 ⊢
    unfold fre at h2
    simpa using h2
  have hz := hR.kv (el_span hS) hp hpv h1
  rw [apf_dt i hi, dt_congr2 (z := kv (m2 G r c) p top (nth (fre p top) c u)) (fun l hl => hH u l hu hl)]
  exact dt_span (el_span hS) (hS.2 i hi) hz
end Go.Proofs.Ytblfldjlehjnbaa
