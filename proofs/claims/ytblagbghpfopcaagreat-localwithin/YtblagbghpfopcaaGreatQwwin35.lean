/-
  What echelon forms tell: of what is sent to b, of inverses, of the rows that are no combination of those above.
-/
import Derived.Test.YtblagbghpfopcaaGreatQwwin00
import Derived.Test.YtblagbghpfopcaaGreatQwwin29
import Derived.Test.YtblagbghpfopcaaGreatQwwin28
set_option maxRecDepth 100000
set_option maxHeartbeats 16000000
namespace Go.Proofs.YtblagbghpfopcaaGreat
open Go.RowKit
/-- The matrix N beside M's first c columns. -/
def wd (M : Nat → Nat → Nat) (c : Nat) (N : Nat → Nat → Nat) (i j : Nat) : Nat := if j < c then M i j else N i (j - c)
theorem wd_el {M N : Nat → Nat → Nat} (hM : El2 M) (hN : El2 N) (c : Nat) : El2 (wd M c N) := fun i j => by unfold wd; split; exact hM _ _; exact hN _ _
theorem wd_l (M N : Nat → Nat → Nat) {c j : Nat} (i : Nat) (h : j < c) : wd M c N i j = M i j := if_pos h
theorem wd_r (M N : Nat → Nat → Nat) (c i j : Nat) : wd M c N i (c + j) = N i j := by unfold wd; rw [if_neg (by omega), Nat.add_sub_cancel_left]
theorem aug_ct {J M : Nat → Nat → Nat} {r c : Nat} {b : Nat → Nat} (hM : ∀ i j, i < r → c ≤ j → M i j = 0) (hS : Le J r (aug M c b) r) : ∀ i j, i < r → aug (ct J c) c (fun i => J i c) i j = J i j := fun i j hi => by
 unfold aug
 by_cases e : j = c
 ·rw [if_pos e, e]
 ·rw [if_neg e]
  by_cases h : j < c
  ·exact qf2 J i h
  ·rw [qeq J i (by omega)]
   exact (hS.cut (c := c + 1) (fun t l ht hl => by unfold aug; rw [if_neg (by omega)]; exact hM t l ht (by omega)) i j hi (by omega)).symm
/-- Reduced, with b beside it: what is put at the pivots is sent to b. -/
theorem qjp {J M : Nat → Nat → Nat} (hJ : El2 J) (_hM : El2 M) {r c top : Nat} {b p : Nat → Nat} (hb : El b) (hc : ∀ i j, i < r → c ≤ j → M i j = 0) (hS : SpEq J r (aug M c b) r) (hA : Asc J r top c p 0) (h0 : ∀ i, top ≤ i → i < r → J i c = 0) : Sol M r c b (pp p top (fun i => J i c)) := by
 have hd : El (fun i => J i c) := fun i => hJ i c
 have hS2 : SpEq (aug (ct J c) c (fun i => J i c)) r (aug M c b) r := hS.rows (aug_ct hc hS.1)
 exact qi1 (qlu hJ c) hd hb hS2.2 (hA.rdf.sends (qlu hJ c) hA.ech.lt hd h0)
theorem qjq {J M : Nat → Nat → Nat} (hJ : El2 J) (hM : El2 M) {r c top i : Nat} {b p : Nat → Nat} (hb : El b) (hc : ∀ i j, i < r → c ≤ j → M i j = 0) (hS : SpEq J r (aug M c b) r) (hE : Ech J r top c p) (hi : top ≤ i) (hir : i < r) (h0 : J i c ≠ 0) (x : Nat → Nat) : ¬ Sol M r c b x := by
 intro hx
 have hd : El (fun i => J i c) := fun i => hJ i c
 have hS2 : SpEq (aug (ct J c) c (fun i => J i c)) r (aug M c b) r := hS.rows (aug_ct hc hS.1)
 have h1 := qi1 hM hb hd hS2.1 hx i hir
 apply h0
 have h2 : dt (ct J c i) x c = J i c := h1
 rw [← h2]
 exact qad (fun j hj => by rw [qf2 J i hj, hE.nul i j hi hir hj, qaa])
theorem wd_aug {F X : Nat → Nat} {r c : Nat} (i j : Nat) : wd (m2 F r c) c (m2 X r 1) i j = aug (m2 F r c) c (ext0 X r) i j := by
 unfold wd aug
 by_cases h : j < c
 ·rw [if_pos h, if_neg (by omega)]
 ·rw [if_neg h]
  by_cases e : j = c
  ·subst e
   rw [if_pos rfl, Nat.sub_self]
   unfold ext0
   split
   ·rename_i hi
    rw [qb1 X hi (by omega), Nat.mul_one, Nat.add_zero]
   ·rename_i hi
    exact qlb X (by omega)
  ·rw [if_neg e, qaf X (by omega), qaf F (by omega)]
theorem qm0 {F X p : Nat → Nat} {J : Nat → Nat → Nat} {r c n top : Nat} (hJ : El2 J) (hF : ∀ i, i < n → F i < 256) (R : Rt r c n) (hX : ∀ i, i < r → X i < 256) (hS : SpEq J r (wd (m2 F r c) c (m2 X r 1)) r) (hA : Asc J r top c p 0) (h0 : ∀ i, top ≤ i → i < r → J i c = 0) : SolA F X r c (pp p top (fun i => J i c)) := by
 have hM := qax hF R
 have hc : ∀ i j, i < r → c ≤ j → m2 F r c i j = 0 := fun i j _ hj => qaf F hj
 have hS1 : SpEq J r (aug (m2 F r c) c (ext0 X r)) r := by
  rw [show aug (m2 F r c) c (ext0 X r) = wd (m2 F r c) c (m2 X r 1) from funext fun i => funext fun j => (wd_aug i j).symm]
  exact hS
 refine ⟨qkr p top (fun i => hJ i c), qjp hJ hM (qlg hX) hc hS1 hA h0, ct J c, top, p, qlu hJ c, hA.rdf, ?_, hA.ech.lt, fun j _ hf => qha _ hf⟩
 refine (hS1.ct c).trans (SpEq.rows (SpEq.refl hM r) (fun i j _ => ?_))
 by_cases h : j < c
 ·rw [qf2 _ i h, aug_lt _ _ i h]
 ·rw [qeq _ i (by omega), qaf F (by omega)]
theorem no_sola {F X p : Nat → Nat} {J : Nat → Nat → Nat} {r c n top i : Nat} (hJ : El2 J) (hF : ∀ i, i < n → F i < 256) (R : Rt r c n) (hX : ∀ i, i < r → X i < 256) (hS : SpEq J r (wd (m2 F r c) c (m2 X r 1)) r) (hE : Ech J r top c p) (hi : top ≤ i) (hir : i < r) (h0 : J i c ≠ 0) (x : Nat → Nat) : ¬ Sol (m2 F r c) r c (ext0 X r) x := by
 have hS1 : SpEq J r (aug (m2 F r c) c (ext0 X r)) r := by
  rw [show aug (m2 F r c) c (ext0 X r) = wd (m2 F r c) c (m2 X r 1) from funext fun i => funext fun j => (wd_aug i j).symm]
  exact hS
 exact qjq hJ (qax hF R) (qlg hX) (fun i j _ hj => qaf F hj) hS1 hE hi hir h0 x
theorem kv_above {R : Nat → Nat → Nat} {r k j l : Nat} {p : Nat → Nat} (h : Rdf R r k p) (hl : j < l) : kv R p k j l = 0 := by
 unfold kv
 rw [if_neg (by omega)]
 refine qad (fun i hi => ?_)
 split
 ·rename_i e
  exact h.low i j hi (by omega)
 ·rfl
/-- a's numbers ahead of place j, 1 there, 0 behind. -/
def fx (a : Nat → Nat) (j l : Nat) : Nat := if l < j then a l else if l = j then 1 else 0
theorem fx_lo (a : Nat → Nat) {j l : Nat} (h : l < j) : fx a j l = a l := if_pos h
theorem fx_at (a : Nat → Nat) (j : Nat) : fx a j j = 1 := by unfold fx; rw [if_neg (by omega), if_pos rfl]
theorem fx_hi (a : Nat → Nat) {j l : Nat} (h : j < l) : fx a j l = 0 := by unfold fx; rw [if_neg (by omega), if_neg (by omega)]
/-- The pivots of the matrix transposed are the rows that are no combination of those above. -/
theorem qm1 {M T R : Nat → Nat → Nat} (hM : El2 M) (hT : El2 T) (hR : El2 R) {r c k : Nat} {p : Nat → Nat} (hcut : ∀ i j, i < r → c ≤ j → M i j = 0) (e : ∀ i j, i < c → j < r → T i j = M j i) (h : Rdf R c k p) (hc : ∀ i, i < k → p i < r) (hS : SpEq R c T c) {j : Nat} (hj : j < r) : Fst M j ↔ pvt p k j = true := by
 constructor
 ·intro hf
  cases hp : pvt p k j with
  | true => rfl
  | false =>
   exfalso
   apply hf
   have hz := h.kv hR hc hp hj
   refine ⟨kv R p k j, qhb hR p k j, fun i => ?_⟩
   by_cases hi : i < c
   ·have h1 : dt (T i) (kv R p k j) r = 0 := qdg hR (hS.2 i hi) hz
    have h2 : dt (T i) (kv R p k j) r = lc (kv R p k j) M j i ^^^ M j i := by
     unfold dt
     rw [qa4 (g := fun l => fm (kv R p k j l) (M l i)) (fun l hl => by rw [e i l hi hl, qac _ _ (hM l i) (qhb hR p k j l)])]
     rw [qkl (n := j + 1) (by omega) (fun l h1 h2 => by rw [kv_above h (by omega), qaa])]
     show xs (fun l => fm (kv R p k j l) (M l i)) j ^^^ fm (kv R p k j j) (M j i) = _
     rw [show kv R p k j j = 1 from if_pos rfl, qaz _ (hM j i)]
     rfl
    rw [h1] at h2
    exact (qe9 h2.symm).symm
   ·rw [hcut j i hj (by omega)]
    exact (qad (fun l hl => by rw [hcut l i (by omega) (by omega), qa7])).symm
 ·intro hp hs
  obtain ⟨i, hi, rfl⟩ := (qbu p k j).1 hp
  obtain ⟨a, ha, es⟩ := hs
  have h0 : ∀ t, t < c → dt (T t) (fx a (p i)) r = 0 := fun t ht => by
   unfold dt
   rw [qkl (n := p i + 1) (by omega) (fun l h1 h2 => by rw [fx_hi a (show p i < l by omega), qa7])]
   show xs (fun l => fm (T t l) (fx a (p i) l)) (p i) ^^^ fm (T t (p i)) (fx a (p i) (p i)) = 0
   rw [fx_at, qb6 _ (hT t (p i)), e t (p i) ht hj, es t]
   unfold lc
   rw [qa4 (g := fun l => fm (a l) (M l t)) (fun l hl => by rw [fx_lo a hl, e t l ht (by omega), qac _ _ (hM l t) (ha l)]), Nat.xor_self]
  have h1 := qdg hT (hS.1 i (by have := h.kr; omega)) h0
  have h2 : dt (R i) (fx a (p i)) r = 1 := by
   unfold dt
   rw [qbe hj (fun l hl hne => by
    by_cases hlt : l < p i
    ·rw [h.low i l hi hlt, qaa]
    ·rw [fx_hi a (show p i < l by omega), qa7]), fx_at, h.one i hi]
   exact qb6 1 (by decide)
  rw [h2] at h1
  exact absurd h1 (by decide)
theorem qm2 (F : Nat → Nat) {r c : Nat} : ∀ i j, i < c → j < r → m2 (trf F r c) c r i j = m2 F r c j i := fun i j hi hj => by rw [qb1 _ hi hj, qb1 _ hj hi, qf8 F r c j i hj]
theorem trf_lt {F : Nat → Nat} {r c n : Nat} (hF : ∀ i, i < n → F i < 256) (R : Rt r c n) : ∀ p, p < n → trf F r c p < 256 := by
 intro p hp
 have R2 : Rt c r n := ⟨R.c64, R.r64, by rw [Nat.mul_comm]; exact R.len⟩
 obtain ⟨j, i, hj, hi, rfl⟩ := place_of R2 hp
 rw [qf8 F r c i j hi]
 exact hF _ (R.at hi hj)
/-- What Solve answers of the matrix transposed is what Combine asks for. -/
theorem cmba_of {F Y x : Nat → Nat} {r c n : Nat} (hF : ∀ i, i < n → F i < 256) (R : Rt r c n) (h : SolA (trf F r c) Y c r x) : CmbA F Y r c x := by
 obtain ⟨hx, hs, G, k, p, hG, hR, hS, hc, h0⟩ := h
 have hM := qax hF R
 have hT := qax (trf_lt hF R) R.turn
 refine ⟨⟨hx, fun i hi hne => ?_⟩, fun j => ?_⟩
 ·refine (qm1 hM hT hG (fun i j _ hj => qaf F hj) (qm2 F) hR hc hS hi).2 ?_
  cases hp : pvt p k i with
  | true => rfl
  | false => exact absurd (h0 i hi hp) hne
 ·by_cases hj : j < c
  ·rw [← hs j hj]
   exact qa4 (fun l hl => by rw [qm2 F j l hj hl, qac _ _ (hM l j) (hx l)])
  ·unfold ext0
   rw [if_neg hj]
   exact (qad (fun l _ => by rw [qaf F (by omega), qa7])).symm
theorem qjr {F Y : Nat → Nat} {r c n : Nat} (hF : ∀ i, i < n → F i < 256) (R : Rt r c n) (h : Spn (m2 F r c) r (ext0 Y c)) : ∃ x, Sol (m2 (trf F r c) c r) c r (ext0 Y c) x := by
 obtain ⟨a, ha, e⟩ := h
 refine ⟨a, fun j hj => ?_⟩
 rw [e j]
 exact qa4 (fun l hl => by rw [qm2 F j l hj hl, qac _ _ (ha l) (qax hF R l j)])
end Go.Proofs.YtblagbghpfopcaaGreat
