/-
  What the program's matroid rests on: spans told by kernels, rows of noughts, factors of combinations. No Go in sight.
-/
import Derived.Test.YtblagbghpfopcaaGreatQwwin00
import Derived.Test.YtblagbghpfopcaaGreatQwwin34
import Derived.Test.YtblagbghpfopcaaGreatQwwin35
import Derived.Test.YtblagbghpfopcaaGreatQwwin39
import Derived.Test.YtblagbghpfopcaaGreatQwwin40
set_option maxRecDepth 100000
set_option maxHeartbeats 16000000
namespace Go.Proofs.YtblagbghpfopcaaGreat
open Go.RowKit
theorem dt_comm7 {x y : Nat → Nat} (hx : El x) (hy : El y) (c : Nat) : dt x y c = dt y x c := qa4 (fun l _ => qac _ _ (hx l) (hy l))
theorem qmg {G PF : Nat → Nat} {K c : Nat} (hS : SpEq (m2 G K c) K (m2 PF K c) K) : El2 (m2 G K c) := fun i j => by
 by_cases hi : i < K
 ·exact (hS.1 i hi).el j
 ·rw [qlb _ (by omega)]; decide
/-- A list is a combination of some rows just if its Dots with the kernel's lists are 0. -/
theorem ker_dots {PF G H p : Nat → Nat} {K c kr top : Nat} (hR : Rdf (m2 G K c) K top p) (hS : SpEq (m2 G K c) K (m2 PF K c) K) (hc : ∀ i, i < top → p i < c) (ek : kr = cnt (fre p top) c)
  (eH : ∀ u l, u < kr → l < c → H (u * c + l) = kv (m2 G K c) p top (nth (fre p top) c u) l) {y : Nat → Nat} (hy : El y) (h0 : ∀ j, c ≤ j → y j = 0) :
  Spn (m2 PF K c) K y ↔ ∀ u, u < kr → xs (fun l => fm (y l) (H (u * c + l))) c = 0 := by
 have hG := qmg hS
 have key : ∀ u, u < kr → xs (fun l => fm (y l) (H (u * c + l))) c = dt (kv (m2 G K c) p top (nth (fre p top) c u)) y c := fun u hu => by
  rw [dt_comm7 (qhb hG p top _) hy]
  exact qa4 (fun l hl => by rw [eH u l hu hl])
 constructor
 ·intro h u hu
  rw [key u hu]
  obtain ⟨a, b, _⟩ := qbt (fre p top) c u (by omega)
  exact qli hG hR hc (Spn.trans h hS.2) a (by simpa [fre] using b)
 ·intro h
  refine Spn.trans (chk_span hG hR hc (fun i j _ hj => qaf _ hj) hy h0 (fun f hf hp => ?_)) hS.1
  have hfr : fre p top f = true := by simp [fre, hp]
  have h1 := cnt_lt hf hfr
  have h2 := h (cnt (fre p top) f) (by omega)
  rw [key _ (by omega), qh9 hf hfr] at h2
  exact h2
/-- Column j of the kernel has noughts alone just if the rows' span has the list that is 1 there and 0 elsewhere. -/
theorem qmh {PF G H p : Nat → Nat} {K c kr top : Nat} (hR : Rdf (m2 G K c) K top p) (hS : SpEq (m2 G K c) K (m2 PF K c) K) (hc : ∀ i, i < top → p i < c) (ek : kr = cnt (fre p top) c)
  (eH : ∀ u l, u < kr → l < c → H (u * c + l) = kv (m2 G K c) p top (nth (fre p top) c u) l) {j : Nat} (hj : j < c) :
  Spn (m2 PF K c) K (dl j) ↔ ∀ u, u < kr → H (u * c + j) = 0 := by
 rw [ker_dots hR hS hc ek eH (qh7 j) (fun l hl => qfr (by omega))]
 have hG := qmg hS
 have key : ∀ u, u < kr → xs (fun l => fm (dl j l) (H (u * c + l))) c = H (u * c + j) := fun u hu => by
  rw [qbe hj (fun l _ hne => by rw [qfr hne, qaa]), qbs, eH u j hu hj, qaz _ (qhb hG p top _ j)]
 exact ⟨fun h u hu => by rw [← key u hu]; exact h u hu, fun h u hu => by rw [key u hu]; exact h u hu⟩
theorem pick_ss {F : Nat → Nat} {r c n s : Nat} (hF : ∀ i, i < n → F i < 256) (R : Rt r c n) {y : Nat → Nat} : Spn (m2 (pkf F (lf s r) c) (cn s r) c) (cn s r) y ↔ SS (m2 F r c) r s y := by
 have hM := qax hF R
 have e : ∀ i j, i < cn s r → m2 (pkf F (lf s r) c) (cn s r) c i j = m2 F r c (lf s r i) j := fun i j hi => by rw [qgc (fun t ht => (qal ht).1) hi]
 constructor
 ·intro h
  exact Spn.trans (h.rows e) (qdb hM r s).1
 ·intro h
  exact (Spn.trans h (qdb hM r s).2).rows (fun i j hi => (e i j hi).symm)
/-- A combination that comes to noughts, in which the row i of s has a factor that is not 0: the row is a combination of the others. -/
theorem dep_ss {M : Nat → Nat → Nat} (hM : El2 M) {R s i : Nat} (hR : R ≤ 64) (hs : s < 2 ^ R) (hi : i < R) (hb : bt s i = 1) {x : Nat → Nat} (hx : El x) (h0 : ∀ j, lc x (fun t => M (lf s R t)) (cn s R) j = 0) (hne : x (cn s i) ≠ 0) : SS M R (rem s i) (M i) := by
 have hs64 := qc7 hR hs
 obtain ⟨hK, hlf⟩ := qgv hi hb
 have h1 : Spn (mk M (rem s i)) R (lc (fun t => if t = cn s i then 0 else x t) (fun t => M (lf s R t)) (cn s R)) := qeb (fun t => by show (if t = cn s i then 0 else x t) < 256; split; decide; exact hx t) (fun t ht hnz => by
  by_cases e : t = cn s i
  ·rw [if_pos e] at hnz; exact absurd rfl hnz
  ·obtain ⟨a, b, c⟩ := qal ht
   exact qcj hM a ((qdc hs64 (by omega) _).2 ⟨b, fun e2 => e (by rw [← c, e2])⟩))
 have h2 : ∀ j, lc (fun t => if t = cn s i then 0 else x t) (fun t => M (lf s R t)) (cn s R) j = fm (x (cn s i)) (M i j) := fun j => by
  have e1 : lc x (fun t => M (lf s R t)) (cn s R) j = lc (fun t => (if t = cn s i then x (cn s i) else 0) ^^^ (if t = cn s i then 0 else x t)) (fun t => M (lf s R t)) (cn s R) j := qb2 (fun t _ => by
   by_cases e : t = cn s i
   ·rw [if_pos e, if_pos e, Nat.xor_zero, e]
   ·rw [if_neg e, if_neg e, Nat.zero_xor]) (fun _ _ => rfl)
  have e2 := h0 j
  rw [e1, qf6 (fun t => by show (if t = cn s i then x (cn s i) else 0) < 256; split; exact hx _; decide) (fun t => by show (if t = cn s i then 0 else x t) < 256; split; decide; exact hx t)] at e2
  rw [← qe9 e2]
  unfold lc
  rw [qbe hK (fun k _ hk => by show fm (if k = cn s i then x (cn s i) else 0) _ = 0; rw [if_neg hk, qaa])]
  show fm (if cn s i = cn s i then x (cn s i) else 0) (M (lf s R (cn s i)) j) = _
  rw [if_pos rfl, hlf]
 refine (qb4 (qae (x (cn s i))) h1).congr (fun j => ?_)
 rw [h2 j, ← qam _ _ _ (qae _) (hx _), qac _ _ (qae _) (hx _), qau _ (hx _) hne, qaz _ (hM i j)]
/-- A row is needed just if its factors in the combinations that come to noughts are 0. -/
theorem qiw {F G H p : Nat → Nat} {r c n s i kr top : Nat} (hF : ∀ i, i < n → F i < 256) (R : Rt r c n) (hs : s < 2 ^ r) (hi : i < r) (hb : bt s i = 1)
  (hR : Rdf (m2 G c (cn s r)) c top p) (hS : SpEq (m2 G c (cn s r)) c (m2 (trf (pkf F (lf s r) c) (cn s r) c) c (cn s r)) c) (hc : ∀ i, i < top → p i < cn s r) (ek : kr = cnt (fre p top) (cn s r))
  (eH : ∀ u l, u < kr → l < cn s r → H (u * cn s r + l) = kv (m2 G c (cn s r)) p top (nth (fre p top) (cn s r) u) l) :
  (∀ u, u < kr → H (u * cn s r + cn s i) = 0) ↔ ¬ SS (m2 F r c) r (rem s i) (m2 F r c i) := by
 have hM := qax hF R
 have hr64 := R.r64
 have hs64 := qc7 R.r64 hs
 have hG := qmg hS
 obtain ⟨hK, hlf⟩ := qgv hi hb
 have eT : ∀ j u, j < c → u < cn s r → m2 (trf (pkf F (lf s r) c) (cn s r) c) c (cn s r) j u = m2 F r c (lf s r u) j := fun j u hj hu => qjk F (fun t ht => (qal ht).1) j u hj hu
 have hT : El2 (m2 (trf (pkf F (lf s r) c) (cn s r) c) c (cn s r)) := fun j u => by
  by_cases hj : j < c
  ·by_cases hu : u < cn s r
   ·rw [eT j u hj hu]; exact hM _ _
   ·rw [qaf _ (by omega)]; decide
  ·rw [qlb _ (by omega)]; decide
 rw [← qmh hR hS hc ek eH hK]
 constructor
 ·rintro ⟨b, hbe, e⟩ hss
  have hdot : ∀ u, u < cn s r → dt (m2 F r c (lf s r u)) b c = dl (cn s i) u := fun u hu => by
   rw [e u]
   exact qa4 (fun j hj => by rw [eT j u hj hu]; exact qac _ _ (hM _ _) (hbe j))
  have h1 : dt (m2 F r c i) b c = 1 := by
   have := hdot _ hK
   rw [hlf, qbs] at this
   exact this
  have h2 : dt (m2 F r c i) b c = 0 := qdg (qjt hM _) hss (fun j hj => by
   by_cases hbj : bt (rem s i) j = 1
   ·rw [qgw hbj]
    obtain ⟨h3, h4⟩ := (qdc hs64 (by omega) j).1 hbj
    obtain ⟨h5, h6⟩ := qgv hj h3
    have h7 := hdot _ h5
    rw [h6] at h7
    rw [h7]
    refine qfr (fun e => h4 ?_)
    rw [← h6, e, hlf]
   ·rw [qma hbj]
    exact qad (fun l _ => qaa _))
  omega
 ·intro hn
  rw [qmh hR hS hc ek eH hK]
  intro u hu
  apply Classical.byContradiction
  intro hne
  obtain ⟨a, b, _⟩ := qbt (fre p top) (cn s r) u (by omega)
  have hk0 := hR.kv hG hc (f := nth (fre p top) (cn s r) u) (by simpa [fre] using b) a
  have hx := qhb hG p top (nth (fre p top) (cn s r) u)
  rw [eH u _ hu hK] at hne
  refine hn (dep_ss hM R.r64 hs hi hb hx (fun j => ?_) hne)
  by_cases hj : j < c
  ·have h1 : dt (m2 (trf (pkf F (lf s r) c) (cn s r) c) c (cn s r) j) (kv (m2 G c (cn s r)) p top (nth (fre p top) (cn s r) u)) (cn s r) = 0 := qdg hG (hS.2 j hj) hk0
   rw [← h1]
   exact qa4 (fun t ht => by rw [eT j t hj ht]; exact qac _ _ (hx t) (hM _ _))
  ·exact qad (fun t _ => by show fm _ (m2 F r c (lf s r t) j) = 0; rw [qaf _ (by omega), qa7])
/-- The factors of picked rows, laid out over all rows. -/
def spr (s : Nat) (x : Nat → Nat) (i : Nat) : Nat := if bt s i = 1 then x (cn s i) else 0
theorem spr_el {s : Nat} {x : Nat → Nat} (hx : El x) : El (spr s x) := fun i => by unfold spr; split; exact hx _; decide
theorem lc_spr {M : Nat → Nat → Nat} {R s : Nat} (x : Nat → Nat) (j : Nat) : ∀ n, n ≤ R → lc (spr s x) (mk M s) n j = lc x (fun t => M (lf s R t)) (cn s n) j := by
 intro n
 induction n with
 | zero => intro _; rfl
 | succ n ih =>
  intro hn
  have h1 := ih (by omega)
  rw [qai]
  by_cases hb : bt s n = 1
  ·rw [hb]
   show lc (spr s x) (mk M s) n j ^^^ fm (spr s x n) (mk M s n j) = lc x _ (cn s n) j ^^^ fm (x (cn s n)) (M (lf s R (cn s n)) j)
   rw [h1, qgw hb, (qgv (by omega) hb).2]
   unfold spr
   rw [if_pos hb]
  ·rw [qao hb]
   show lc (spr s x) (mk M s) n j ^^^ fm (spr s x n) (mk M s n j) = lc x _ (cn s n) j
   rw [h1]
   unfold spr
   rw [if_neg hb, qaa, Nat.xor_zero]
end Go.Proofs.YtblagbghpfopcaaGreat
