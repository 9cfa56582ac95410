/-
  What echelon forms tell: of what is sent to b, of inverses, of the rows that are no combination of those above.
-/
import Derived.Test.YtokdejhbjoglcaaGreatQddes00
import Derived.Test.YtokdejhbjoglcaaGreatQddes28
import Derived.Test.YtokdejhbjoglcaaGreatQddes30
set_option maxRecDepth 100000
set_option maxHeartbeats 16000000
namespace Go.Proofs.YtokdejhbjoglcaaGreat
open Go.RowKit
/-- The matrix N beside M's first c columns. -/
def wd (M : Nat → Nat → Nat) (c : Nat) (N : Nat → Nat → Nat) (i j : Nat) : Nat := if j < c then M i j else N i (j - c)
theorem wd_el {M N : Nat → Nat → Nat} (hM : El2 M) (hN : El2 N) (c : Nat) : El2 (wd M c N) := fun i j => by unfold wd; split; exact hM _ _; exact hN _ _
theorem wd_l (M N : Nat → Nat → Nat) {c j : Nat} (i : Nat) (h : j < c) : wd M c N i j = M i j := if_pos h
theorem wd_r (M N : Nat → Nat → Nat) (c i j : Nat) : wd M c N i (c + j) = N i j := by unfold wd; rw [if_neg (by omega), Nat.add_sub_cancel_left]
theorem aug_ct {J M : Nat → Nat → Nat} {r c : Nat} {b : Nat → Nat} (hM : ∀ i j, i < r → c ≤ j → M i j = 0) (hS : Le J r (aug M c b) r) : ∀ i j, i < r → aug (ct J c) c (fun i => J i c) i j = J i j := fun i j hi => by
 unfold aug
 by_cases e : j = c
 ·rw [if_pos e, e]
 ·rw [if_neg e]
  by_cases h : j < c
  ·exact qg2 J i h
  ·rw [qhq J i (by omega)]
   exact (hS.cut (c := c + 1) (fun t l ht hl => by unfold aug; rw [if_neg (by omega)]; exact hM t l ht (by omega)) i j hi (by omega)).symm
/-- Reduced to the identity: what stood beside it is the inverse. -/
theorem qiq {J M N : Nat → Nat → Nat} (_hJ : El2 J) (_hM : El2 M) {r : Nat} {p : Nat → Nat} (hN : ∀ i j, i < r → j < r → N i j = dl i j) (hS : SpEq J r (wd M r N) r) (hA : Asc J r r r p 0) : ∀ i j, i < r → j < r → pr M (fun t l => J t (r + l)) r i j = dl i j := by
 have hf := hA.rdf.full hA.ech.lt
 have hJd : ∀ t l, t < r → l < r → J t l = dl t l := fun t l ht hl => by rw [← qg2 J t hl]; exact hf t l ht hl
 intro i j hi hj
 obtain ⟨a, ha, e⟩ := hS.2 i hi
 have h1 : ∀ t, t < r → a t = M i t := fun t ht => by
  have := e t
  rw [wd_l M N i ht] at this
  rw [this]
  unfold lc
  rw [qb4 ht (fun s hs hne => by rw [hJd s t hs ht, qcs (fun e => hne e.symm), qa8]), hJd t t ht ht, qbh, qaw _ (ha t)]
 have h2 := e (r + j)
 rw [wd_r, hN i j hi hj] at h2
 rw [h2]
 exact qal (fun t ht => (h1 t ht).symm) (fun _ _ => rfl)
theorem kv_above {R : Nat → Nat → Nat} {r k j l : Nat} {p : Nat → Nat} (h : Rdf R r k p) (hl : j < l) : kv R p k j l = 0 := by
 unfold kv
 rw [if_neg (by omega)]
 refine qaf (fun i hi => ?_)
 split
 ·rename_i e
  exact h.low i j hi (by omega)
 ·rfl
/-- a's numbers ahead of place j, 1 there, 0 behind. -/
def fx (a : Nat → Nat) (j l : Nat) : Nat := if l < j then a l else if l = j then 1 else 0
theorem fx_lo (a : Nat → Nat) {j l : Nat} (h : l < j) : fx a j l = a l := if_pos h
theorem fx_at (a : Nat → Nat) (j : Nat) : fx a j j = 1 := by unfold fx; rw [if_neg (by omega), if_pos rfl]
theorem fx_hi (a : Nat → Nat) {j l : Nat} (h : j < l) : fx a j l = 0 := by unfold fx; rw [if_neg (by omega), if_neg (by omega)]
/-- The pivots of the matrix transposed are the rows that are no combination of those above. -/
theorem qg3 {M T R : Nat → Nat → Nat} (hM : El2 M) (hT : El2 T) (hR : El2 R) {r c k : Nat} {p : Nat → Nat} (hcut : ∀ i j, i < r → c ≤ j → M i j = 0) (e : ∀ i j, i < c → j < r → T i j = M j i) (h : Rdf R c k p) (hc : ∀ i, i < k → p i < r) (hS : SpEq R c T c) {j : Nat} (hj : j < r) : Fst M j ↔ pvt p k j = true := by
 constructor
 ·intro hf
  cases hp : pvt p k j with
  | true => rfl
  | false =>
   exfalso
   apply hf
   have hz := h.kv hR hc hp hj
   refine ⟨kv R p k j, kv_el hR p k j, fun i => ?_⟩
   by_cases hi : i < c
   ·have h1 : dt (T i) (kv R p k j) r = 0 := qf3 hR (hS.2 i hi) hz
    have h2 : dt (T i) (kv R p k j) r = lc (kv R p k j) M j i ^^^ M j i := by
     unfold dt
     rw [qa7 (g := fun l => fm (kv R p k j l) (M l i)) (fun l hl => by rw [e i l hi hl, qaj _ _ (hM l i) (kv_el hR p k j l)])]
     rw [qjb (n := j + 1) (by omega) (fun l h1 h2 => by rw [kv_above h (by omega), qah])]
     show xs (fun l => fm (kv R p k j l) (M l i)) j ^^^ fm (kv R p k j j) (M j i) = _
     rw [show kv R p k j j = 1 from if_pos rfl, qb3 _ (hM j i)]
     rfl
    rw [h1] at h2
    exact (qe2 h2.symm).symm
   ·rw [hcut j i hj (by omega)]
    exact (qaf (fun l hl => by rw [hcut l i (by omega) (by omega), qa8])).symm
 ·intro hp hs
  obtain ⟨i, hi, rfl⟩ := (qb9 p k j).1 hp
  obtain ⟨a, ha, es⟩ := hs
  have h0 : ∀ t, t < c → dt (T t) (fx a (p i)) r = 0 := fun t ht => by
   unfold dt
   rw [qjb (n := p i + 1) (by omega) (fun l h1 h2 => by rw [fx_hi a (show p i < l by omega), qa8])]
   show xs (fun l => fm (T t l) (fx a (p i) l)) (p i) ^^^ fm (T t (p i)) (fx a (p i) (p i)) = 0
   rw [fx_at, qaw _ (hT t (p i)), e t (p i) ht hj, es t]
   unfold lc
   rw [qa7 (g := fun l => fm (a l) (M l t)) (fun l hl => by rw [fx_lo a hl, e t l ht (by omega), qaj _ _ (hM l t) (ha l)]), Nat.xor_self]
  have h1 := qf3 hT (hS.1 i (by have := h.kr; omega)) h0
  have h2 : dt (R i) (fx a (p i)) r = 1 := by
   unfold dt
   rw [qb4 hj (fun l hl hne => by
    by_cases hlt : l < p i
    ·rw [h.low i l hi hlt, qah]
    ·rw [fx_hi a (show p i < l by omega), qa8]), fx_at, h.one i hi]
   exact qaw 1 (by decide)
  rw [h2] at h1
  exact absurd h1 (by decide)
theorem fstl_of {M T R : Nat → Nat → Nat} (hM : El2 M) (hT : El2 T) (hR : El2 R) {r c k : Nat} {p : Nat → Nat} (hcut : ∀ i j, i < r → c ≤ j → M i j = 0) (e : ∀ i j, i < c → j < r → T i j = M j i) (h : Rdf R c k p) (hc : ∀ i, i < k → p i < r) (hS : SpEq R c T c) : FstL M r k p :=
 ⟨h.up, hc, fun i hi => (qg3 hM hT hR hcut e h hc hS (hc i hi)).2 ((qb9 p k _).2 ⟨i, hi, rfl⟩), fun _ hi hf => (qb9 p k _).1 ((qg3 hM hT hR hcut e h hc hS hi).1 hf)⟩
theorem m2_trf (F : Nat → Nat) {r c : Nat} : ∀ i j, i < c → j < r → m2 (trf F r c) c r i j = m2 F r c j i := fun i j hi hj => by rw [qag _ hi hj, qag _ hj hi, qfw F r c j i hj]
theorem trf_lt {F : Nat → Nat} {r c n : Nat} (hF : ∀ i, i < n → F i < 256) (R : Rt r c n) : ∀ p, p < n → trf F r c p < 256 := by
 intro p hp
 have R2 : Rt c r n := ⟨R.c64, R.r64, by rw [Nat.mul_comm]; exact R.len⟩
 obtain ⟨j, i, hj, hi, rfl⟩ := place_of R2 hp
 rw [qfw F r c i j hi]
 exact hF _ (R.at hi hj)
/-- The rank of the matrix transposed is the matrix's. -/
theorem rk_trf {F : Nat → Nat} {r c n k : Nat} (hF : ∀ i, i < n → F i < 256) (R : Rt r c n) (h : Rk (m2 (trf F r c) c r) c k) : Rk (m2 F r c) r k := by
 obtain ⟨l, hl⟩ := rk_ex (qaq hF R) r
 have : l = k := rk_tpo (fun i j _ hj => qac F hj) hl (h.at (fun i j hi => by
  unfold tpo
  by_cases hj : j < r
  ·rw [if_pos hj, m2_trf F i j hi hj]
  ·rw [if_neg hj, qac _ (by omega)]))
 rw [← this]
 exact hl
end Go.Proofs.YtokdejhbjoglcaaGreat
