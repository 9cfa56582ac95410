/-
  What the program's matroid rests on: spans told by kernels, rows of noughts, factors of combinations. No Go in sight.
  Contracts of the program's matroid: rowsOf, ofNoughts.
  Contracts of the program's matroid: ofNoughts.
  Contracts of the program's matroid: Rank, Free, Covers.
  Contracts of the program's matroid: Span, Needed.
-/
import Derived.Test.YtflflmdlhmhkdabGj
import Derived.Test.YtflflmdlhmhkdabGs
import Derived.Test.YtflflmdlhmhkdabGu
import Derived.Test.YtflflmdlhmhkdabGn
import Derived.Test.YtflflmdlhmhkdabGc
namespace Go.Proofs.Ytflflmdlhmhkdab
open Go.RowKit
/-- z has those of s, up to the place t, for which a row of noughts stands in H. -/
def Nzt (s d : Nat) (H : Nat → Nat) (t z : Nat) : Prop := z < 2 ^ 64 ∧ ∀ i, i < 64 → (bt z i = 1 ↔ bt s i = 1 ∧ cn s i < t ∧ ∀ j, j < d → H (cn s i * d + j) = 0)
theorem Nzt.start (s d : Nat) (H : Nat → Nat) : Nzt s d H 0 0 := ⟨by decide, fun i _ => by
  rw [bt_big (n := 0) (by decide) (Nat.zero_le _)]
  exact ⟨fun h => by omega, fun h => by omega⟩⟩
theorem Nzt.yes {s d t z : Nat} {H : Nat → Nat} (h : Nzt s d H t z) (ht : t < cn s 64) (h0 : ∀ j, j < d → H (t * d + j) = 0) : Nzt s d H (t + 1) (z ||| 2 ^ lf s 64 t) := by
  obtain ⟨a, b, c⟩ := lf_spec ht
  refine ⟨Nat.or_lt_two_pow h.1 (Nat.pow_lt_pow_right (by decide) a), fun i hi => ?_⟩
  rw [bt_or, bt_pow, h.2 i hi]
  constructor
  · rintro (⟨x, y, v⟩ | e)
    · exact ⟨x, by omega, v⟩
    · subst e
      rw [c]
      exact ⟨b, by omega, h0⟩
  · rintro ⟨x, y, v⟩
    by_cases e : cn s i < t
    · exact .inl ⟨x, e, v⟩
    · have h2 := (lf_cn hi x).2
      rw [show cn s i = t by omega] at h2
      exact .inr h2.symm
theorem Nzt.no {s d t z : Nat} {H : Nat → Nat} (h : Nzt s d H t z) (h0 : ∃ j, j < d ∧ H (t * d + j) ≠ 0) : Nzt s d H (t + 1) z := by
  refine ⟨h.1, fun i hi => ?_⟩
  rw [h.2 i hi]
  constructor
  · rintro ⟨x, y, v⟩
    exact ⟨x, by omega, v⟩
  · rintro ⟨x, y, v⟩
    refine ⟨x, Classical.byContradiction fun hn => ?_, v⟩
    obtain ⟨j, hj, hne⟩ := h0
    rw [show cn s i = t by omega] at v
    exact hne (v j hj)
/-- All places of s are gone through. -/
theorem Nzt.all {s d z : Nat} {H : Nat → Nat} (h : Nzt s d H (cn s 64) z) : ∀ i, i < 64 → (bt z i = 1 ↔ bt s i = 1 ∧ ∀ j, j < d → H (cn s i * d + j) = 0) := fun i hi => by
  rw [h.2 i hi]
  exact ⟨fun h => ⟨h.1, h.2.2⟩, fun h => ⟨h.1, (lf_cn hi h.1).1, h.2⟩⟩
theorem dt_comm7 {x y : Nat → Nat} (hx : El x) (hy : El y) (c : Nat) : dt x y c = dt y x c := xs_congr (fun l _ => fm_comm _ _ (hx l) (hy l))
theorem red_el {G PF : Nat → Nat} {K c : Nat} (hS : SpEq (m2 G K c) K (m2 PF K c) K) : El2 (m2 G K c) := fun i j => by
  by_cases hi : i < K
  · exact (hS.1 i hi).el j
  · rw [m2_low _ (by omega)]; decide
/-- A list is a combination of some rows just if its Dots with the kernel's lists are 0. -/
theorem ker_dots {PF G H p : Nat → Nat} {K c kr top : Nat} (hR : Rdf (m2 G K c) K top p) (hS : SpEq (m2 G K c) K (m2 PF K c) K) (hc : ∀ i, i < top → p i < c) (ek : kr = cnt (fre p top) c)
    (eH : ∀ u l, u < kr → l < c → H (u * c + l) = kv (m2 G K c) p top (nth (fre p top) c u) l) {y : Nat → Nat} (hy : El y) (h0 : ∀ j, c ≤ j → y j = 0) :
    Spn (m2 PF K c) K y ↔ ∀ u, u < kr → xs (fun l => fm (y l) (H (u * c + l))) c = 0 := by
  have hG := red_el hS
  have key : ∀ u, u < kr → xs (fun l => fm (y l) (H (u * c + l))) c = dt (kv (m2 G K c) p top (nth (fre p top) c u)) y c := fun u hu => by
    rw [dt_comm7 (kv_el hG p top _) hy]
    exact xs_congr (fun l hl => by rw [eH u l hu hl])
  constructor
  · intro h u hu
    rw [key u hu]
    obtain ⟨a, b, _⟩ := nth_spec (fre p top) c u (by omega)
    exact chk_span' hG hR hc (Spn.trans h hS.2) a (by simpa [fre] using b)
  · intro h
    refine Spn.trans (chk_span hG hR hc (fun i j _ hj => m2_cut _ hj) hy h0 (fun f hf hp => ?_)) hS.1
    have hfr : fre p top f = true := by simp [fre, hp]
    have h1 := cnt_lt hf hfr
    have h2 := h (cnt (fre p top) f) (by omega)
    rw [key _ (by omega), nth_cnt hf hfr] at h2
    exact h2
/-- Column j of the kernel has noughts alone just if the rows' span has the list that is 1 there and 0 elsewhere. -/
theorem ker_col {PF G H p : Nat → Nat} {K c kr top : Nat} (hR : Rdf (m2 G K c) K top p) (hS : SpEq (m2 G K c) K (m2 PF K c) K) (hc : ∀ i, i < top → p i < c) (ek : kr = cnt (fre p top) c)
    (eH : ∀ u l, u < kr → l < c → H (u * c + l) = kv (m2 G K c) p top (nth (fre p top) c u) l) {j : Nat} (hj : j < c) :
    Spn (m2 PF K c) K (dl j) ↔ ∀ u, u < kr → H (u * c + j) = 0 := by
  rw [ker_dots hR hS hc ek eH (dl_el j) (fun l hl => dl_ne (by omega))]
  have hG := red_el hS
  have key : ∀ u, u < kr → xs (fun l => fm (dl j l) (H (u * c + l))) c = H (u * c + j) := fun u hu => by
    rw [xs_one hj (fun l _ hne => by rw [dl_ne hne, zero_fm]), dl_self, eH u j hu hj, one_fm _ (kv_el hG p top _ j)]
  exact ⟨fun h u hu => by rw [← key u hu]; exact h u hu, fun h u hu => by rw [key u hu]; exact h u hu⟩
theorem pick_ss {F : Nat → Nat} {r c n s : Nat} (hF : ∀ i, i < n → F i < 256) (R : Rt r c n) {y : Nat → Nat} : Spn (m2 (pkf F (lf s r) c) (cn s r) c) (cn s r) y ↔ SS (m2 F r c) r s y := by
  have hM := m2_el hF R
  have e : ∀ i j, i < cn s r → m2 (pkf F (lf s r) c) (cn s r) c i j = m2 F r c (lf s r i) j := fun i j hi => by rw [m2_pick7 (fun t ht => (lf_spec ht).1) hi]
  constructor
  · intro h
    exact Spn.trans (h.rows e) (pick_span hM r s).1
  · intro h
    exact (Spn.trans h (pick_span hM r s).2).rows (fun i j hi => (e i j hi).symm)
/-- A combination that comes to noughts, in which the row i of s has a factor that is not 0: the row is a combination of the others. -/
theorem dep_ss {M : Nat → Nat → Nat} (hM : El2 M) {R s i : Nat} (hR : R ≤ 64) (hs : s < 2 ^ R) (hi : i < R) (hb : bt s i = 1) {x : Nat → Nat} (hx : El x) (h0 : ∀ j, lc x (fun t => M (lf s R t)) (cn s R) j = 0) (hne : x (cn s i) ≠ 0) : SS M R (rem s i) (M i) := by
  have hs64 := lt_64 hR hs
  obtain ⟨hK, hlf⟩ := lf_cn hi hb
  have h1 : Spn (mk M (rem s i)) R (lc (fun t => if t = cn s i then 0 else x t) (fun t => M (lf s R t)) (cn s R)) := spn_lc_some (fun t => by show (if t = cn s i then 0 else x t) < 256; split; decide; exact hx t) (fun t ht hnz => by
    by_cases e : t = cn s i
    · rw [if_pos e] at hnz; exact absurd rfl hnz
    · obtain ⟨a, b, c⟩ := lf_spec ht
      exact ss_row hM a ((bt_rem hs64 (by omega) _).2 ⟨b, fun e2 => e (by rw [← c, e2])⟩))
  have h2 : ∀ j, lc (fun t => if t = cn s i then 0 else x t) (fun t => M (lf s R t)) (cn s R) j = fm (x (cn s i)) (M i j) := fun j => by
    have e1 : lc x (fun t => M (lf s R t)) (cn s R) j = lc (fun t => (if t = cn s i then x (cn s i) else 0) ^^^ (if t = cn s i then 0 else x t)) (fun t => M (lf s R t)) (cn s R) j := lc_congr (fun t _ => by
      by_cases e : t = cn s i
      · rw [if_pos e, if_pos e, Nat.xor_zero, e]
      · rw [if_neg e, if_neg e, Nat.zero_xor]) (fun _ _ => rfl)
    have e2 := h0 j
    rw [e1, lc_add (fun t => by show (if t = cn s i then x (cn s i) else 0) < 256; split; exact hx _; decide) (fun t => by show (if t = cn s i then 0 else x t) < 256; split; decide; exact hx t)] at e2
    rw [← xor_eq e2]
    unfold lc
    rw [xs_one hK (fun k _ hk => by show fm (if k = cn s i then x (cn s i) else 0) _ = 0; rw [if_neg hk, zero_fm])]
    show fm (if cn s i = cn s i then x (cn s i) else 0) (M (lf s R (cn s i)) j) = _
    rw [if_pos rfl, hlf]
  refine (spn_mul (finv_lt (x (cn s i))) h1).congr (fun j => ?_)
  rw [h2 j, ← fm_assoc _ _ _ (finv_lt _) (hx _), fm_comm _ _ (finv_lt _) (hx _), fm_finv _ (hx _) hne, one_fm _ (hM i j)]
/-- A row is needed just if its factors in the combinations that come to noughts are 0. -/
theorem need_ker {F G H p : Nat → Nat} {r c n s i kr top : Nat} (hF : ∀ i, i < n → F i < 256) (R : Rt r c n) (hs : s < 2 ^ r) (hi : i < r) (hb : bt s i = 1)
    (hR : Rdf (m2 G c (cn s r)) c top p) (hS : SpEq (m2 G c (cn s r)) c (m2 (trf (pkf F (lf s r) c) (cn s r) c) c (cn s r)) c) (hc : ∀ i, i < top → p i < cn s r) (ek : kr = cnt (fre p top) (cn s r))
    (eH : ∀ u l, u < kr → l < cn s r → H (u * cn s r + l) = kv (m2 G c (cn s r)) p top (nth (fre p top) (cn s r) u) l) :
    (∀ u, u < kr → H (u * cn s r + cn s i) = 0) ↔ ¬ SS (m2 F r c) r (rem s i) (m2 F r c i) := by
  have hM := m2_el hF R
  have hr64 := R.r64
  have hs64 := lt_64 R.r64 hs
  have hG := red_el hS
  obtain ⟨hK, hlf⟩ := lf_cn hi hb
  have eT : ∀ j u, j < c → u < cn s r → m2 (trf (pkf F (lf s r) c) (cn s r) c) c (cn s r) j u = m2 F r c (lf s r u) j := fun j u hj hu => m2_trf_pkf F (fun t ht => (lf_spec ht).1) j u hj hu
  have hT : El2 (m2 (trf (pkf F (lf s r) c) (cn s r) c) c (cn s r)) := fun j u => by
    by_cases hj : j < c
    · by_cases hu : u < cn s r
      · rw [eT j u hj hu]; exact hM _ _
      · rw [m2_cut _ (by omega)]; decide
    · rw [m2_low _ (by omega)]; decide
  rw [← ker_col hR hS hc ek eH hK]
  constructor
  · rintro ⟨b, hbe, e⟩ hss
    have hdot : ∀ u, u < cn s r → dt (m2 F r c (lf s r u)) b c = dl (cn s i) u := fun u hu => by
      rw [e u]
      exact xs_congr (fun j hj => by rw [eT j u hj hu]; exact fm_comm _ _ (hM _ _) (hbe j))
    have h1 : dt (m2 F r c i) b c = 1 := by
      have := hdot _ hK
      rw [hlf, dl_self] at this
      exact this
    have h2 : dt (m2 F r c i) b c = 0 := dt_span (mk_el hM _) hss (fun j hj => by
      by_cases hbj : bt (rem s i) j = 1
      · rw [mk_in hbj]
        obtain ⟨h3, h4⟩ := (bt_rem hs64 (by omega) j).1 hbj
        obtain ⟨h5, h6⟩ := lf_cn hj h3
        have h7 := hdot _ h5
        rw [h6] at h7
        rw [h7]
        refine dl_ne (fun e => h4 ?_)
        rw [← h6, e, hlf]
      · rw [mk_out hbj]
        exact xs_zero (fun l _ => zero_fm _))
    omega
  · intro hn
    rw [ker_col hR hS hc ek eH hK]
    intro u hu
    apply Classical.byContradiction
    intro hne
    obtain ⟨a, b, _⟩ := nth_spec (fre p top) (cn s r) u (by omega)
    have hk0 := hR.kv hG hc (f := nth (fre p top) (cn s r) u) (by simpa [fre] using b) a
    have hx := kv_el hG p top (nth (fre p top) (cn s r) u)
    rw [eH u _ hu hK] at hne
    refine hn (dep_ss hM R.r64 hs hi hb hx (fun j => ?_) hne)
    by_cases hj : j < c
    · have h1 : dt (m2 (trf (pkf F (lf s r) c) (cn s r) c) c (cn s r) j) (kv (m2 G c (cn s r)) p top (nth (fre p top) (cn s r) u)) (cn s r) = 0 := dt_span hG (hS.2 j hj) hk0
      rw [← h1]
      exact xs_congr (fun t ht => by rw [eT j t hj ht]; exact fm_comm _ _ (hx t) (hM _ _))
    · exact xs_zero (fun t _ => by show fm _ (m2 F r c (lf s r t) j) = 0; rw [m2_cut _ (by omega), fm_zero])
/-- The factors of picked rows, laid out over all rows. -/
def spr (s : Nat) (x : Nat → Nat) (i : Nat) : Nat := if bt s i = 1 then x (cn s i) else 0
theorem spr_el {s : Nat} {x : Nat → Nat} (hx : El x) : El (spr s x) := fun i => by unfold spr; split; exact hx _; decide
theorem lc_spr {M : Nat → Nat → Nat} {R s : Nat} (x : Nat → Nat) (j : Nat) : ∀ n, n ≤ R → lc (spr s x) (mk M s) n j = lc x (fun t => M (lf s R t)) (cn s n) j := by
  intro n
  induction n with
  | zero => intro _; rfl
  | succ n ih =>
    intro hn
    have h1 := ih (by omega)
    rw [cn_top]
    by_cases hb : bt s n = 1
    · rw [hb]
      show lc (spr s x) (mk M s) n j ^^^ fm (spr s x n) (mk M s n j) = lc x _ (cn s n) j ^^^ fm (x (cn s n)) (M (lf s R (cn s n)) j)
      rw [h1, mk_in hb, (lf_cn (by omega) hb).2]
      unfold spr
      rw [if_pos hb]
    · rw [bt_zero_of hb]
      show lc (spr s x) (mk M s) n j ^^^ fm (spr s x n) (mk M s n j) = lc x _ (cn s n) j
      rw [h1]
      unfold spr
      rw [if_neg hb, zero_fm, Nat.xor_zero]
/-- The rows of s whose factor is not 0, and b. -/
theorem circ_of {F x : Nat → Nat} {r c n s b z u : Nat} (hF : ∀ i, i < n → F i < 256) (R : Rt r c n) (hs : s < 2 ^ r) (hf : FreeS (m2 F r c) r s) (hx : El x) (hy : ∀ j, m2 F r c b j = lc x (m2 (pkf F (lf s r) c) (cn s r) c) (cn s r) j)
    (hz : ∀ i, i < 64 → (bt z i = 1 ↔ bt s i = 1 ∧ x (cn s i) = 0)) (hu : ∀ i, i < 64 → (bt u i = 1 ↔ (bt s i = 1 ∧ ¬ bt z i = 1) ∨ i = b)) (hu2 : u < 2 ^ r) : CiS (m2 F r c) r b s u := by
  have hM := m2_el hF R
  have hr64 := R.r64
  have hy2 : ∀ j, m2 F r c b j = lc (spr s x) (mk (m2 F r c) s) r j := fun j => by
    rw [hy j, lc_spr x j r (Nat.le_refl _)]
    exact lc_congr (fun _ _ => rfl) (fun i hi => by rw [m2_pick7 (fun t ht => (lf_spec ht).1) hi])
  refine ⟨hu2, fun i hi => ?_⟩
  rw [hu i (by omega)]
  constructor
  · rintro (⟨h1, h2⟩ | h)
    · refine .inr ⟨h1, fun t ht => (circ_iff hM hf hi h1 ht (spr_el hx) hy2).1 (fun e => h2 ((hz i (by omega)).2 ⟨h1, ?_⟩))⟩
      unfold spr at e
      rwa [if_pos h1] at e
    · exact .inl h
  · rintro (h | ⟨h1, h2⟩)
    · exact .inr h
    · refine .inl ⟨h1, fun h3 => ?_⟩
      have h4 := (circ_iff hM hf hi h1 (fun j _ => bt_rem (lt_64 hr64 hs) (by omega) j) (spr_el hx) hy2).2 (h2 _ (fun j _ => bt_rem (lt_64 hr64 hs) (by omega) j))
      apply h4
      unfold spr
      rw [if_pos h1]
      exact ((hz i (by omega)).1 h3).2
theorem cn_mod {s m : Nat} : ∀ n, cn (s % 2 ^ m) n = cn s (min n m) := by
  intro n
  induction n with
  | zero => rw [Nat.zero_min]; rfl
  | succ n ih =>
    rw [cn_top, ih]
    by_cases h : n < m
    · rw [show min n m = n by omega, show min (n + 1) m = n + 1 by omega, cn_top]
      congr 1
      have h1 := bt_low s m n
      have h2 := bt_lt (s % 2 ^ m) n
      have h3 := bt_lt s n
      omega
    · rw [show min n m = m by omega, show min (n + 1) m = m by omega]
      have h1 := bt_low s m n
      have h2 := bt_lt (s % 2 ^ m) n
      omega
theorem lf_mod {s R m t : Nat} (ht : t < cn s m) (hm : m ≤ R) : lf (s % 2 ^ m) R t = lf s R t := by
  have h0 : t < cn s R := Nat.lt_of_lt_of_le ht (cn_mono hm)
  obtain ⟨a, b, c⟩ := lf_spec h0
  have h1 : lf s R t < m := Classical.byContradiction fun hn => by
    have := cn_mono (s := s) (show m ≤ lf s R t by omega)
    omega
  have h2 : bt (s % 2 ^ m) (lf s R t) = 1 := (bt_low _ _ _).2 ⟨h1, b⟩
  have h3 := (lf_cn a h2).2
  rwa [cn_mod, show min (lf s R t) m = lf s R t by omega, c] at h3
/-- A picked row is no combination of those above just if it is none of those of s with lesser numbers. -/
theorem fst_iff {F : Nat → Nat} {r c n s v : Nat} (hF : ∀ i, i < n → F i < 256) (R : Rt r c n) (hv : v < cn s r) : Fst (m2 (pkf F (lf s r) c) (cn s r) c) v ↔ ¬ SS (m2 F r c) r (s % 2 ^ lf s r v) (m2 F r c (lf s r v)) := by
  have hM := m2_el hF R
  obtain ⟨a, b, e⟩ := lf_spec hv
  have e1 : ∀ i, i < cn s r → m2 (pkf F (lf s r) c) (cn s r) c i = m2 F r c (lf s r i) := fun i hi => m2_pick7 (fun t ht => (lf_spec ht).1) hi
  have e2 : cn (s % 2 ^ lf s r v) r = v := by rw [cn_mod, show min r (lf s r v) = lf s r v by omega, e]
  have hsp := pick_span hM r (s % 2 ^ lf s r v)
  rw [e2] at hsp
  have e3 : ∀ t j, t < v → m2 F r c (lf (s % 2 ^ lf s r v) r t) j = m2 (pkf F (lf s r) c) (cn s r) c t j := fun t j ht => by rw [lf_mod (by omega) (by omega), e1 t (by omega)]
  unfold Fst
  rw [e1 v hv]
  refine not_congr ⟨fun h => ?_, fun h => ?_⟩
  · exact Spn.trans (h.rows (fun t j ht => (e3 t j ht).symm)) hsp.1
  · exact (Spn.trans h hsp.2).rows e3
/-- What Basis has gathered of the first u places. -/
def Bsu (s R : Nat) (q : Nat → Nat) (u z : Nat) : Prop := z < 2 ^ R ∧ ∀ i, i < R → (bt z i = 1 ↔ ∃ v, v < u ∧ lf s R (q v) = i)
theorem Bsu.start (s R : Nat) (q : Nat → Nat) : Bsu s R q 0 0 := ⟨Nat.two_pow_pos R, fun i _ => by
  rw [bt_big (n := 0) (by decide) (Nat.zero_le _)]
  exact ⟨fun h => by omega, fun ⟨v, h, _⟩ => by omega⟩⟩
theorem Bsu.step {s R u z : Nat} {q : Nat → Nat} (h : Bsu s R q u z) (hq : q u < cn s R) : Bsu s R q (u + 1) (z ||| 2 ^ lf s R (q u)) := by
  obtain ⟨a, b, c⟩ := lf_spec hq
  refine ⟨Nat.or_lt_two_pow h.1 (Nat.pow_lt_pow_right (by decide) a), fun i hi => ?_⟩
  rw [bt_or, bt_pow, h.2 i hi]
  constructor
  · rintro (⟨v, h1, h2⟩ | e)
    · exact ⟨v, by omega, h2⟩
    · exact ⟨u, by omega, e.symm⟩
  · rintro ⟨v, h1, h2⟩
    by_cases e : v = u
    · subst e; exact .inr h2.symm
    · exact .inl ⟨v, by omega, h2⟩
theorem Bsu.base {F q : Nat → Nat} {r c n s t z : Nat} (hF : ∀ i, i < n → F i < 256) (R : Rt r c n) (h : Bsu s r q t z) (hL : FstL (m2 (pkf F (lf s r) c) (cn s r) c) (cn s r) t q) : BaS (m2 F r c) r s z := by
  refine ⟨h.1, fun i hi => ?_⟩
  rw [h.2 i hi]
  constructor
  · rintro ⟨v, hv, e⟩
    have h1 := hL.lt v hv
    have h2 := (fst_iff hF R h1).1 (hL.is v hv)
    rw [e] at h2
    refine ⟨?_, h2⟩
    rw [← e]
    exact (lf_spec h1).2.1
  · rintro ⟨h1, h2⟩
    obtain ⟨h3, h4⟩ := lf_cn hi h1
    have h5 : Fst (m2 (pkf F (lf s r) c) (cn s r) c) (cn s i) := (fst_iff hF R h3).2 (by rw [h4]; exact h2)
    obtain ⟨u, hu, e⟩ := hL.all _ h3 h5
    exact ⟨u, hu, by rw [e]; exact h4⟩
theorem prk_lt7 {F : Nat → Nat} (G : Nat → Nat) {ra ca cb na n : Nat} (hF : ∀ i, i < na → F i < 256) (RA : Rt ra ca na) (RC : Rt ra cb n) : ∀ p, p < n → prk F G ca cb ca p < 256 := fun p hp => by
  have hn := RC.len
  have hcb : 0 < cb := by
    rcases Nat.eq_zero_or_pos cb with e | e
    · subst e; rw [Nat.mul_zero] at hn; omega
    · exact e
  have hi : p / cb < ra := (Nat.div_lt_iff_lt_mul hcb).2 (by omega)
  have := prk_lt (k := ca) G hF RA hi (Nat.mod_lt p hcb) (Nat.le_refl _)
  rwa [show p / cb * cb + p % cb = p by rw [Nat.mul_comm]; exact Nat.div_add_mod p cb] at this
/-- The row i of the Dots has noughts alone just if the row is in the span. -/
theorem span_row {F G H p : Nat → Nat} {r c n s i kr top : Nat} (hF : ∀ i, i < n → F i < 256) (R : Rt r c n) (hi : i < r)
    (hR : Rdf (m2 G (cn s r) c) (cn s r) top p) (hS : SpEq (m2 G (cn s r) c) (cn s r) (m2 (pkf F (lf s r) c) (cn s r) c) (cn s r)) (hc : ∀ i, i < top → p i < c) (ek : kr = cnt (fre p top) c)
    (eH : ∀ u l, u < kr → l < c → H (u * c + l) = kv (m2 G (cn s r) c) p top (nth (fre p top) c u) l) :
    (∀ j, j < kr → prk F (trf H kr c) c kr c (i * kr + j) = 0) ↔ SS (m2 F r c) r s (m2 F r c i) := by
  rw [← pick_ss hF R, ker_dots hR hS hc ek eH (m2_el hF R i) (fun j hj => m2_cut _ hj)]
  have key : ∀ j, j < kr → prk F (trf H kr c) c kr c (i * kr + j) = xs (fun l => fm (m2 F r c i l) (H (j * c + l))) c := fun j hj => by
    unfold prk
    rw [dm1 hj, dm2 hj]
    exact xs_congr (fun l hl => by rw [trf_at H kr c j l hj, m2_at _ hi hl])
  exact ⟨fun h u hu => by rw [← key u hu]; exact h u hu, fun h u hu => by rw [key u hu]; exact h u hu⟩
end Go.Proofs.Ytflflmdlhmhkdab

namespace Go.Proofs.Ytflflmdlhmhkdab
open Go.RowKit
set_option maxRecDepth 20000 in
set_option maxHeartbeats 1000000 in
theorem rows_any (w : World) (r c r' c' E : Int) (n k s kq n' : Nat) (a : Option Addr) (q : Nat → Int) (Q : World → Option Addr → Nat → Prop)
    (HL : Hid (∀ w' : World, Calls Try.prog 37 #[.int .u64 (s : Int)] w' fun e w'' => ∃ x d, e = .returned (.slice x kq d) ∧ Il w'' x kq q ∧ Below w'.heap.size w' w''))
    (HP : Hid (∀ (w' : World) (x : Option Addr) (d : Nat), Below w.heap.size w w' → w.heap.size + 2 ≤ w'.heap.size → Il w' x kq q → Calls Try.prog 47 #[mv r c a n k, .slice x kq d] w' fun e w'' => ∃ a' k', e = .returned (.tuple #[mv r' c' a' n' k', .int .i64 E]) ∧ Q w'' a' k' ∧ Below w'.heap.size w' w''))
    (HQ : Hid (∀ (w1 w2 : World) (a' : Option Addr) (k' : Nat), Q w1 a' k' → w1.grownBy w2 (some (w.heap.size + 1)) → Q w2 a' k')) :
    Calls Try.prog 27 #[mv r c a n k, .int .u64 (s : Int)] w fun e w' => ∃ a' k', e = .returned (.tuple #[mv r' c' a' n' k', .int .i64 E]) ∧ Q w' a' k' ∧ Below w.heap.size w w' := by
  go_enter Try.func27, Try.ntmps27
  go_wp2
  refine wp_region_held (S := fun w' => w'.cell? ⟨w.heap.size, 0, none⟩ = some (.int .i64 r) ∧ w'.cell? ⟨w.heap.size, 1, none⟩ = some (.int .i64 c) ∧ w'.cell? ⟨w.heap.size, 2, none⟩ = some (.slice a n k)) (by kernel_rfl) ?_
  change wpAnyH _ _ _ _ _ _ _ _ (World.drew _)
  obtain ⟨W0, HW0⟩ : ∃ W0, Hid (((w.alloc (.cells #[.int .i64 r, .int .i64 c, .slice a n k] 24)).alloc (.cells #[.int .i64 0, .int .i64 0, .slice none 0 0] 24)).drew = W0) := ⟨_, rfl⟩
  rw [HW0.out]
  have HX0 : Hid (Vr W0 w.heap.size (.int .i64 r) (.int .i64 c) (.slice a n k)) := by rw [← HW0.out]; exact ((Vr.new w _ _ _).later (alloc_low _ _)).later (Below.refl _ _).drew
  have HY0 : Hid (Vr W0 (w.heap.size + 1) (.int .i64 0) (.int .i64 0) (.slice none 0 0)) := by rw [← HW0.out]; show Vr _ _ _ _ _; have := (Vr.new (w.alloc (.cells #[.int .i64 r, .int .i64 c, .slice a n k] 24)) (.int .i64 0) (.int .i64 0) (.slice none 0 0)).later (Below.refl _ _).drew; simpa using this
  have HB0 : Hid (Below w.heap.size w W0) := by rw [← HW0.out]; exact two_below (two_below (alloc_low _ _) (alloc_low _ _)) (Below.refl _ _).drew
  have hz0 : w.heap.size + 2 ≤ W0.heap.size := HY0.out.lt
  refine wpAnyH_take (i := 0) (v := ?v0) rfl (by kernel_rfl) (by kernel_rfl) (by kernel_rfl) (fun _ _ _ h => h) (Or.inl ⟨by rfl, ?y0⟩) ⟨HX0.out.c0, HX0.out.c1, HX0.out.c2⟩ ?z0
  case y0 => (intro w hSw; (try dsimp only at hSw); go_simp; try with_reducible rfl)
  try simp only [List.getElem_toArray, List.getElem_cons_zero, Act.put, List.setIfInBounds_toArray, List.set_cons_zero, List.set_cons_succ]
  refine wpAnyH_take (i := 1) (v := ?v1) rfl (by kernel_rfl) (by kernel_rfl) (by kernel_rfl) (fun _ _ _ h => h) (Or.inl ⟨by rfl, ?y1⟩) ⟨HX0.out.c0, HX0.out.c1, HX0.out.c2⟩ ?z1
  case y1 => (intro w hSw; (try dsimp only at hSw); go_simp; try with_reducible rfl)
  try simp only [List.getElem_toArray, List.getElem_cons_succ, List.getElem_cons_zero, Act.put, List.setIfInBounds_toArray, List.set_cons_zero, List.set_cons_succ]
  refine wpAnyH_ready (rs := [2]) (by kernel_rfl) (by simp) ?_
  refine AllReadyH.cons rfl (fun K hK => ?_) AllReadyH.nil
  go_simp
  refine (HL.out _).mono ?_
  rintro e w1 ⟨x1, d1, rfl, hj1, hb1⟩
  have HI1 : Hid (Il w1 x1 kq q) := hj1
  have HB1 : Hid (Below w.heap.size w w1) := two_below HB0.out hb1
  have HV1 : Hid (Vr w1 w.heap.size (.int .i64 r) (.int .i64 c) (.slice a n k)) := HX0.out.later hb1
  have HY1 : Hid (Vr w1 (w.heap.size + 1) (.int .i64 0) (.int .i64 0) (.slice none 0 0)) := HY0.out.later hb1
  have hz1 : w.heap.size + 2 ≤ w1.heap.size := Nat.le_trans hz0 hb1.size
  clear hj1 hb1
  refine hK.out _ _ ⟨HV1.out.c0, HV1.out.c1, HV1.out.c2⟩ (fun _ => ?_)
  clear hK K
  try simp only [List.getElem_toArray, List.getElem_cons_succ, List.getElem_cons_zero, Act.put, List.setIfInBounds_toArray, List.set_cons_zero, List.set_cons_succ]
  refine wpAnyH_ready (rs := [3]) (by kernel_rfl) (by simp) ?_
  refine AllReadyH.cons rfl (fun K hK => ?_) AllReadyH.nil
  go_simp
  refine (HP.out _ _ _ HB1.out hz1 HI1.out).mono ?_
  rintro e w2 ⟨a2, k2, rfl, hq2, hb2⟩
  have HQ2 : Hid (Q w2 a2 k2) := hq2
  have HB2 : Hid (Below w.heap.size w w2) := two_below HB1.out hb2
  have HV2 : Hid (Vr w2 w.heap.size (.int .i64 r) (.int .i64 c) (.slice a n k)) := HV1.out.later hb2
  have HY2 : Hid (Vr w2 (w.heap.size + 1) (.int .i64 0) (.int .i64 0) (.slice none 0 0)) := HY1.out.later hb2
  clear hq2 hb2
  refine hK.out _ _ ⟨HV2.out.c0, HV2.out.c1, HV2.out.c2⟩ (fun _ => ?_)
  clear hK K
  try simp only [List.getElem_toArray, List.getElem_cons_succ, List.getElem_cons_zero, Act.put, List.setIfInBounds_toArray, List.set_cons_zero, List.set_cons_succ]
  refine wpAnyH_take (i := 4) (v := ?v4) rfl (by kernel_rfl) (by kernel_rfl) (by kernel_rfl) (fun _ _ _ h => h) (Or.inl ⟨by rfl, ?y4⟩) ⟨HV2.out.c0, HV2.out.c1, HV2.out.c2⟩ ?z4
  case y4 => (intro w hSw; (try dsimp only at hSw); go_simp; try with_reducible rfl)
  try simp only [List.getElem_toArray, List.getElem_cons_succ, List.getElem_cons_zero, Act.put, List.setIfInBounds_toArray, List.set_cons_zero, List.set_cons_succ]
  refine wpAnyH_take (i := 5) (v := ?v5) rfl (by kernel_rfl) (by kernel_rfl) (by kernel_rfl) (fun _ _ _ h => h) (Or.inl ⟨by rfl, ?y5⟩) ⟨HV2.out.c0, HV2.out.c1, HV2.out.c2⟩ ?z5
  case y5 => (intro w hSw; (try dsimp only at hSw); go_simp; try with_reducible rfl)
  try simp only [List.getElem_toArray, List.getElem_cons_succ, List.getElem_cons_zero, Act.put, List.setIfInBounds_toArray, List.set_cons_zero, List.set_cons_succ]
  refine wpAnyH_ready (rs := [6]) (by kernel_rfl) (by simp) ?_
  refine AllReadyH.cons rfl (fun K hK => ?_) AllReadyH.nil
  refine step_store_var rfl _ _ rfl (w.heap.size + 1) _ _ _ (.int .i64 r') (.int .i64 c') (.slice a2 n' k2) rfl rfl HY2.out rfl rfl rfl ?_
  intro w4 HV4 HG4
  have HQ4 : Hid (Q w4 a2 k2) := HQ.out _ _ _ _ HQ2.out HG4.out
  have HW4 : Hid (Vr w4 w.heap.size (.int .i64 r) (.int .i64 c) (.slice a n k)) := HV2.out.kept HG4.out (by omega)
  have HB4 : Hid (Below w.heap.size w w4) := HB2.out.trans (jbelow HG4.out HB2.out.size (fun g e => by cases e; omega))
  refine hK.out _ _ ⟨HW4.out.c0, HW4.out.c1, HW4.out.c2⟩ (fun _ => ?_)
  clear hK K
  try simp only [List.getElem_toArray, List.getElem_cons_succ, List.getElem_cons_zero, Act.put]
  refine wpAnyH_take (i := 7) (v := ?v7) rfl (by kernel_rfl) (by kernel_rfl) (by kernel_rfl) (fun _ _ _ h => h) (Or.inl ⟨by rfl, ?y7⟩) ⟨HW4.out.c0, HW4.out.c1, HW4.out.c2⟩ ?z7
  case y7 => (intro w hSw; (try dsimp only at hSw); go_simp; try with_reducible rfl)
  try simp only [List.getElem_toArray, List.getElem_cons_succ, List.getElem_cons_zero, Act.put, List.setIfInBounds_toArray, List.set_cons_zero, List.set_cons_succ]
  refine wpAnyH_done (by kernel_rfl) ?_ _
  have x0 := HV4.out.c0
  have x1 := HV4.out.c1
  have x2 := HV4.out.c2
  go_wp2
  refine bodyPost_ret (v := .tuple #[mv r' c' a2 n' k2, .int .i64 E]) (by simp [results, Try.results27, go_sem, x0, x1, x2, mv]) rfl ?_
  exact ⟨a2, k2, rfl, HQ4.out, HB4.out⟩
theorem list_il {s K : Nat} {f : Nat → Nat} (hs : s < 18446744073709551616) (hK : cn s 64 = K) (hf : ∀ i, i < K → lf s 64 i = f i) : Hid (∀ w' : World, Calls Try.prog 37 #[.int .u64 (s : Int)] w' fun e w'' => ∃ x d, e = .returned (.slice x K d) ∧ Il w'' x K (fun i => (f i : Int)) ∧ Below w'.heap.size w' w'') :=
  fun w' => (jlist_ok s w' hs).mono (fun e w'' h => by
    obtain ⟨v, he, ho, hb⟩ := h
    rw [hK] at ho
    have ho2 := ho.congr hf
    obtain ⟨x, d, rfl, _⟩ := ho2.form
    exact ⟨x, d, he, il_of_jl ho2.jl, hb⟩)
/-- The rows of a set. -/
theorem rows_ok (w : World) (r c n k s N : Nat) (a : Option Addr) (F : Nat → Nat) (ha : Mt w a n k F) (R : Rt r c n) (hs : s < 2 ^ r) (HN : Hid (cn s r * c = N)) :
    Calls Try.prog 27 #[mv r c a n k, .int .u64 (s : Int)] w fun e w' => ∃ g, e = .returned (.tuple #[mv (cn s r : Nat) c (some ⟨g, 0, none⟩) N N, .int .i64 0]) ∧ RowAt w' g 5 N (pkf F (lf s r) c) ∧ Below w.heap.size w w' := by
  have hr := R.r64
  have hs6 := lt_64 hr hs
  have hcl := cn_le r s
  refine (rows_any w r c (cn s r : Nat) c 0 n k s (cn s r) N a (fun i => (lf s r i : Int)) (fun w' a' k' => k' = N ∧ ∃ g, a' = some ⟨g, 0, none⟩ ∧ RowAt w' g 5 N (pkf F (lf s r) c) ∧ w.heap.size + 2 ≤ g) (list_il hs6 (cn_all hr hs) (fun i _ => lf_all hr hs i)) (fun w' x d hb hz hi => ?_) (fun w1 w2 a' k' h hg => ?_)).mono (fun e w' h => ?_)
  · refine (mpick_ok w' r c n k (cn s r) d N a x F (lf s r) (ha.later hb) R hi (fun i hi => (lf_spec hi).1) (by omega) HN).mono (fun e w'' h => ?_)
    obtain ⟨g, he, hr, hg, hb2⟩ := h
    exact ⟨some ⟨g, 0, none⟩, N, he, ⟨rfl, g, rfl, hr, by omega⟩, hb2⟩
  · obtain ⟨rfl, g, rfl, hr, hg2⟩ := h
    exact ⟨rfl, g, rfl, hr.kept hg (by omega), hg2⟩
  · obtain ⟨a', k', rfl, ⟨rfl, g, rfl, hr, _⟩, hb⟩ := h
    exact ⟨g, rfl, hr, hb⟩
/-- No matrix, or a set with a number that is no row. -/
theorem rows_bad (w : World) (r c E : Int) (n k s : Nat) (a : Option Addr) (hs6 : s < 18446744073709551616) (h : BadE r c n s E) :
    Calls Try.prog 27 #[mv r c a n k, .int .u64 (s : Int)] w fun e w' => e = .returned (.tuple #[mv 0 0 none 0 0, .int .i64 E]) ∧ Below w.heap.size w w' := by
  have hcl := cn_le 64 s
  refine (rows_any w r c 0 0 E n k s (cn s 64) 0 a (fun i => (lf s 64 i : Int)) (fun _ a' k' => a' = none ∧ k' = 0) (list_il hs6 rfl (fun _ _ => rfl)) (fun w' x d hb hz hi => ?_) (fun _ _ _ _ h _ => h)).mono (fun e w' h => ?_)
  · rcases h with ⟨hn, rfl⟩ | ⟨hp, hs, rfl⟩
    · exact (mpick_shape w' r c n k _ d a x hn).mono (fun e w'' h => ⟨none, 0, h.1, ⟨rfl, rfl⟩, h.2⟩)
    · obtain ⟨r, c, rfl, rfl, R⟩ := right_rt hp
      have hr := R.r64
      rw [show ((r : Nat) : Int).toNat = r by omega] at hs
      have hlt : cn s r < cn s 64 := Classical.byContradiction fun hn => by
        apply hs
        have hm := cn_mono (s := s) hr
        have h0 : ∀ i, r ≤ i → bt s i = 0 := fun i hi => bt_zero_of (fun hb => by
          by_cases h6 : i < 64
          · have h1 := cn_top i s
            have h2 := cn_mono (s := s) (show i + 1 ≤ 64 by omega)
            have h3 := cn_mono (s := s) hi
            omega
          · rw [bt_big (n := 64) hs6 (by omega)] at hb; omega)
        apply Nat.lt_of_not_le
        intro hge
        obtain ⟨i, hi, hb⟩ := Nat.exists_ge_and_testBit_of_ge_two_pow hge
        have h1 := h0 i hi
        rw [← bt_iff] at hb
        omega
      have hin : ∀ i, i < cn s r → lf s 64 i < r := fun i hi => Classical.byContradiction fun hn => by
        obtain ⟨a, b, c⟩ := lf_spec (show i < cn s 64 by omega)
        have := cn_mono (s := s) (show r ≤ lf s 64 i by omega)
        omega
      have hout : r ≤ lf s 64 (cn s r) := by
        obtain ⟨a, b, c⟩ := lf_spec hlt
        apply Classical.byContradiction
        intro hn
        have h1 := cn_top (lf s 64 (cn s r)) s
        have h2 := cn_mono (s := s) (show lf s 64 (cn s r) + 1 ≤ r by omega)
        omega
      exact (mpick_arg w' r c n k (cn s 64) d (cn s r) a x (fun i => (lf s 64 i : Int)) R (by omega) hi hlt (fun i hi => by have := hin i hi; omega) (by omega)).mono (fun e w'' h => ⟨none, 0, h.1, ⟨rfl, rfl⟩, h.2⟩)
  · obtain ⟨a', k', rfl, ⟨rfl, rfl⟩, hb⟩ := h
    exact ⟨rfl, hb⟩
end Go.Proofs.Ytflflmdlhmhkdab

namespace Go.Proofs.Ytflflmdlhmhkdab
open Go.RowKit
theorem row_slice {w w' : World} {d t n K : Nat} {H : Nat → Nat} {e : Ending} (hH : ∀ i, i < n → H i < 256) (R : Rt K d n) (ht : t < K) (h : ∃ v, e = .returned (.tuple #[v, .int .i64 0]) ∧ w'.ownsRow w.heap.size 5 1 v d (row d (fun j => H (t * d + j))).toList ∧ Below w.heap.size w w') :
    ∃ s c, e = .returned (.tuple #[.slice s d c, .int .i64 0]) ∧ Sl w' s d (fun j => H (t * d + j)) ∧ Below w.heap.size w w' := by
  obtain ⟨v, he, ho, hb⟩ := h
  obtain ⟨s, c, rfl, hs, _⟩ := own_sl ho (fun j hj => hH _ (R.at ht hj))
  exact ⟨s, c, he, hs, hb⟩
set_option maxRecDepth 20000 in
set_option maxHeartbeats 1000000 in
theorem noughts_any (w : World) (K d n k s : Nat) (a : Option Addr) (H f : Nat → Nat) (Nz : Nat → Nat → Prop) (ha : Mt w a n k H) (R : Rt K d n)
    (HL : Hid (∀ w' : World, Calls Try.prog 37 #[.int .u64 (s : Int)] w' fun e w'' => ∃ x d, e = .returned (.slice x K d) ∧ Il w'' x K (fun i => (f i : Int)) ∧ Below w'.heap.size w' w''))
    (HF : Hid (∀ t, t < K → f t < 64)) (H0 : Hid (Nz 0 0)) (HZ : Hid (∀ t z, Nz t z → z < 18446744073709551616))
    (HY : Hid (∀ t z, t < K → Nz t z → (∀ j, j < d → H (t * d + j) = 0) → Nz (t + 1) (z ||| 2 ^ f t)))
    (HNo : Hid (∀ t z, t < K → Nz t z → (∃ j, j < d ∧ H (t * d + j) ≠ 0) → Nz (t + 1) z)) :
    Calls Try.prog 29 #[mv K d a n k, .int .u64 (s : Int)] w fun e w' => ∃ z : Nat, e = .returned (.int .u64 (z : Int)) ∧ Nz K z ∧ Below w.heap.size w w' := by
  have hK := R.r64
  have hd := R.c64
  have HR : Hid (∀ (t : Nat) (w' : World), t < K → Below w.heap.size w w' → Calls Try.prog 25 #[mv K d a n k, .int .i64 (t : Int)] w' fun e w'' => ∃ s c, e = .returned (.tuple #[.slice s d c, .int .i64 0]) ∧ Sl w'' s d (fun j => H (t * d + j)) ∧ Below w'.heap.size w' w'') :=
    fun t w' ht hb => (mrow_ok w' K d n k t a H (ha.later hb) R ht).mono (fun _ _ h => row_slice ha.sl.1 R ht h)
  clear ha R
  go_enter Try.func29, Try.ntmps29
  go_wp2
  go_step3
  go_wp2
  go_step3
  go_wp2_with (go_at_call 37; refine (HL.out _).mono ?_; rintro e w1 ⟨x1, d1, rfl, hj1, hb1⟩; have HI1 : Hid (Il w1 x1 K (fun i => (f i : Int))) := hj1; have HV1 : Hid (Vr w1 w.heap.size (.int .i64 (K : Int)) (.int .i64 (d : Int)) (.slice a n k)) := (Vr.new w _ _ _).later hb1; have HB1 : Hid (Below w.heap.size w w1) := two_below (alloc_low _ _) hb1; clear hj1 hb1)
  clear HL
  go_loopw [5, 6, 7, 8, 9, 11, 15] (fun vz _ _ _ _ _ vi wr => ∃ t z : Nat, t ≤ K ∧ vi = .int .i64 (t : Int) ∧ vz = .int .u64 (z : Int) ∧ Hid (Nz t z) ∧ Il wr x1 K (fun i => (f i : Int)) ∧ Vr wr w.heap.size (.int .i64 (K : Int)) (.int .i64 (d : Int)) (.slice a n k) ∧ Below w.heap.size w wr) (fun _ _ _ _ _ _ vi _ => K - (intOf vi).toNat)
  case atStart => exact ⟨0, 0, by omega, rfl, rfl, H0, HI1.out, HV1.out, HB1.out⟩
  case round =>
    clear HI1 HV1 HB1 H0
    obtain ⟨t, z, ht, rfl, rfl, HN, hi, hv, hb⟩ := hrel
    have HI : Hid (Il wr x1 K (fun i => (f i : Int))) := hi
    have HV : Hid (Vr wr w.heap.size (.int .i64 (K : Int)) (.int .i64 (d : Int)) (.slice a n k)) := hv
    have HB : Hid (Below w.heap.size w wr) := hb
    have v0 := hv.c0
    have v1 := hv.c1
    have v2 := hv.c2
    clear hv hb
    by_cases hlt : t < K
    · obtain ⟨bx, ox, ex, hc⟩ := hi t hlt
      have hf6 := HF.out t hlt
      obtain ⟨m, HM⟩ : ∃ m, Hid (f t = m) := ⟨_, rfl⟩
      dsimp only at hc
      rw [HM.out] at hc hf6
      subst ex
      clear hi
      obtain ⟨T, HT⟩ : ∃ T : Nat, Hid (2 ^ m = T) := ⟨_, rfl⟩
      have hp2 : IntKind.u64.wrap (2 ^ m) = (T : Int) := by rw [← HT.out]; exact j_pow m hf6
      have hT6 : T < 18446744073709551616 := by rw [← HT.out]; exact j_pow_lt hf6
      obtain ⟨u, HU⟩ : ∃ u, Hid (z ||| T = u) := ⟨_, rfl⟩
      have hor : bits .or .u64 (z : Int) (T : Int) = (u : Int) := by rw [← HU.out]; exact u64_or_nat z T (HZ.out t z HN.out) hT6
      have p0 : (0 : Int) ≤ (t : Int) := by omega
      have p1 : (t : Int) < (K : Int) := by omega
      clear hT6
      go_wp2_with (go_at_call 25; refine (HR.out t _ hlt HB.out).mono ?_; rintro e w3 ⟨s3, c3, rfl, hs3, hb3⟩; have HS3 : Hid (Sl w3 s3 d (fun j => H (t * d + j))) := hs3; have HB3 : Hid (Below w.heap.size w w3) := two_below HB.out hb3; have HV3 : Hid (Vr w3 w.heap.size (.int .i64 (K : Int)) (.int .i64 (d : Int)) (.slice a n k)) := HV.out.later hb3; have HI3 : Hid (Il w3 (some ⟨bx, ox, none⟩) K (fun i => (f i : Int))) := HI.out.later hb3; clear hs3 hb3)
      clear HB HV HI v0 v1 v2 hc
      go_loop [11, 28] (fun _ sj => ∃ j : Nat, j ≤ d ∧ sj = .int .i64 (j : Int) ∧ Hid (∀ l, l < j → H (t * d + l) = 0)) (fun _ sj => d - (intOf sj).toNat)
      case atStart => exact ⟨0, by omega, rfl, fun l hl => by omega⟩
      case round =>
        obtain ⟨j, hj, rfl, HJ⟩ := hrel
        by_cases hjd : j < d
        · obtain ⟨bs, os, es, hcs⟩ := HS3.out.2 j hjd
          have hx8 := HS3.out.1 j hjd
          obtain ⟨y, HYY⟩ : ∃ y, Hid (H (t * d + j) = y) := ⟨_, rfl⟩
          dsimp only at hcs hx8
          rw [HYY.out] at hcs hx8
          subst es
          have r0 : (0 : Int) ≤ (j : Int) := by omega
          have r1 : (j : Int) < (d : Int) := by omega
          by_cases hy : y = 0
          · subst hy
            go_wp2
            exact ⟨⟨j + 1, by omega, by go_num, fun l hl => by
              by_cases e : l = j
              · rw [e]; exact HYY.out
              · exact HJ.out l (by omega)⟩, by simp [intOf]; omega⟩
          · have hyb : ((y : Int) == 0) = false := by simpa using hy
            have HN2 : Hid (Nz (t + 1) z) := HNo.out t z hlt HN.out ⟨j, hjd, by rw [HYY.out]; exact hy⟩
            go_wp2
            exact ⟨⟨t + 1, z, by omega, by go_num, rfl, HN2, HI3.out, HV3.out, HB3.out⟩, by simp [intOf]; omega⟩
        · obtain rfl : j = d := by omega
          have HN2 : Hid (Nz (t + 1) u) := by
            have := HY.out t z hlt HN.out HJ.out
            rw [HM.out, HT.out, HU.out] at this
            exact this
          go_wp2
          exact ⟨⟨t + 1, u, by omega, by go_num, by go_num, HN2, HI3.out, HV3.out, HB3.out⟩, by simp [intOf]; omega⟩
    · obtain rfl : t = K := by omega
      go_wp2
      try rw [Exit.noGoto_ret]
      go_ret
      exact ⟨z, rfl, HN.out, HB.out⟩
theorem noughts_ok (w : World) (d n k s K : Nat) (a : Option Addr) (H : Nat → Nat) (ha : Mt w a n k H) (hs : s < 18446744073709551616) (hK : cn s 64 = K) (R : Rt K d n) :
    Calls Try.prog 29 #[mv K d a n k, .int .u64 (s : Int)] w fun e w' => ∃ z : Nat, e = .returned (.int .u64 (z : Int)) ∧ Nzt s d H K z ∧ Below w.heap.size w w' :=
  noughts_any w K d n k s a H (lf s 64) (Nzt s d H) ha R (list_il hs hK (fun _ _ => rfl)) (fun t ht => (lf_spec (by rw [hK]; exact ht)).1) (Nzt.start s d H) (fun _ _ h => h.1) (fun t z ht h h0 => h.yes (by rw [hK]; exact ht) h0) (fun t z _ h h0 => h.no h0)
end Go.Proofs.Ytflflmdlhmhkdab

namespace Go.Proofs.Ytflflmdlhmhkdab
open Go.RowKit
theorem rows_facts (w : World) (r c n k s : Nat) (a : Option Addr) (F : Nat → Nat) (ha : Mt w a n k F) (R : Rt r c n) (hs : s < 2 ^ r) :
    ∃ (K N : Nat) (P : Nat → Nat), K ≤ 64 ∧ Hid (K = cn s r) ∧ Hid (P = pkf F (lf s r) c) ∧ Hid (Rt K c N) ∧ Hid (∀ i, i < N → P i < 256) ∧ Hid (∀ w' : World, Below w.heap.size w w' → Calls Try.prog 27 #[mv r c a n k, .int .u64 (s : Int)] w' fun e w'' => ∃ g, e = .returned (.tuple #[mv K c (some ⟨g, 0, none⟩) N N, .int .i64 0]) ∧ Mt w'' (some ⟨g, 0, none⟩) N N P ∧ Below w'.heap.size w' w'') := by
  have hr := R.r64
  have hcl := cn_le r s
  have hP : ∀ i, i < cn s r * c → pkf F (lf s r) c i < 256 := fun i hi => pkf_lt ha.sl.1 R (fun i hi => (lf_spec hi).1) i hi
  refine ⟨cn s r, cn s r * c, pkf F (lf s r) c, by omega, rfl, rfl, ⟨by omega, R.c64, rfl⟩, hP, fun w' hb => ?_⟩
  refine (rows_ok w' r c n k s _ a F (ha.later hb) R hs rfl).mono (fun e w'' h => ?_)
  obtain ⟨g, he, hr, hb⟩ := h
  exact ⟨g, he, hr.mt hP, hb⟩
set_option maxRecDepth 20000 in
set_option maxHeartbeats 1000000 in
theorem tRank_ok (w : World) (r c n k s : Nat) (a : Option Addr) (F : Nat → Nat) (ha : Mt w a n k F) (R : Rt r c n) (hs : s < 2 ^ r) :
    Calls Try.prog 17 #[mv r c a n k, .int .u64 (s : Int)] w fun e w' => ∃ t : Nat, e = .returned (.tuple #[.int .i64 (t : Int), .int .i64 0]) ∧ RS (m2 F r c) r s t ∧ Below w.heap.size w w' := by
  obtain ⟨K, N, P, hK, HK, HP, HRk, _, HC⟩ := rows_facts w r c n k s a F ha R hs
  have HT : Hid (∀ t, Rk (m2 P K c) K t → RS (m2 F r c) r s t) := fun t h => by rw [HK.out, HP.out] at h; exact pick_rs ha.sl.1 R h
  clear ha R hs HK HP
  go_enter Try.func17, Try.ntmps17
  go_wp2_with (first
    | (go_at_call 27; refine (HC.out _ (alloc_low _ _)).mono ?_; rintro e w1 ⟨g, rfl, hm1, hb1⟩; have HM1 : Hid (Mt w1 (some ⟨g, 0, none⟩) N N P) := hm1; have HB1 : Hid (Below w.heap.size w w1) := two_below (alloc_low _ _) hb1; have va := Vr.new w1 (.int .i64 (K : Int)) (.int .i64 (c : Int)) (.slice (some ⟨g, 0, none⟩) N N); have a0 := va.c0; have a1 := va.c1; have a2 := va.c2; clear hm1 hb1 va)
    | (go_at_call 36; refine (grank_ok _ K c N N (some ⟨g, 0, none⟩) P (HM1.out.later (alloc_low _ _)) HRk.out).mono ?_; rintro e w2 ⟨t, rfl, hk, hb2⟩; have HT2 : Hid (RS (m2 F r c) r s t) := HT.out t hk; have HB2 : Hid (Below w.heap.size w w2) := two_below (two_below HB1.out (alloc_low _ _)) hb2; clear hk hb2))
  go_ret2
  exact ⟨t, rfl, HT2.out, HB2.out⟩
set_option maxRecDepth 20000 in
set_option maxHeartbeats 1000000 in
theorem tRank_bad (w : World) (r c E : Int) (n k s : Nat) (a : Option Addr) (hs6 : s < 18446744073709551616) (h : BadE r c n s E) :
    Calls Try.prog 17 #[mv r c a n k, .int .u64 (s : Int)] w fun e w' => e = .returned (.tuple #[.int .i64 0, .int .i64 E]) ∧ Below w.heap.size w w' := by
  have HC : Hid (∀ w' : World, Calls Try.prog 27 #[mv r c a n k, .int .u64 (s : Int)] w' fun e w'' => e = .returned (.tuple #[mv 0 0 none 0 0, .int .i64 E]) ∧ Below w'.heap.size w' w'') := fun w' => rows_bad w' r c E n k s a hs6 h
  have hE := h.ne
  clear h hs6
  go_enter Try.func17, Try.ntmps17
  go_wp2_with (go_at_call 27; refine (HC.out _).mono ?_; rintro e w1 ⟨rfl, hb1⟩; have HB1 : Hid (Below w.heap.size w w1) := two_below (alloc_low _ _) hb1; clear hb1)
  go_ret2
  exact ⟨rfl, two_below HB1.out (alloc_low _ _)⟩
set_option maxRecDepth 20000 in
set_option maxHeartbeats 1000000 in
theorem tFree_ok (w : World) (r c n k s : Nat) (a : Option Addr) (F : Nat → Nat) (ha : Mt w a n k F) (R : Rt r c n) (hs : s < 2 ^ r) :
    Calls Try.prog 12 #[mv r c a n k, .int .u64 (s : Int)] w fun e w' => ∃ b : Bool, e = .returned (.tuple #[.bool b, .int .i64 0]) ∧ (b = true ↔ FreeS (m2 F r c) r s) ∧ Below w.heap.size w w' := by
  have HC : Hid (∀ w' : World, Below w.heap.size w w' → Calls Try.prog 17 #[mv r c a n k, .int .u64 (s : Int)] w' fun e w'' => ∃ t : Nat, e = .returned (.tuple #[.int .i64 (t : Int), .int .i64 0]) ∧ RS (m2 F r c) r s t ∧ Below w'.heap.size w' w'') := fun w' hb => tRank_ok w' r c n k s a F (ha.later hb) R hs
  obtain ⟨K, HK, HN⟩ : ∃ K : Nat, Hid (K = cn s r) ∧ Hid (∀ w' : World, Calls Try.prog 30 #[.int .u64 (s : Int)] w' fun e w'' => e = .returned (.int .i64 (K : Int)) ∧ w' = w'') := ⟨cn s r, rfl, fun w' => by have := jcount_ok s w' (lt_64 R.r64 hs); rwa [cn_all R.r64 hs] at this⟩
  have HM : Hid (El2 (m2 F r c)) := m2_el ha.sl.1 R
  clear ha R hs
  go_enter Try.func12, Try.ntmps12
  go_wp2_with (first
    | (go_at_call 17; refine (HC.out _ (alloc_low _ _)).mono ?_; rintro e w1 ⟨t, rfl, ht, hb⟩; have HT : Hid (RS (m2 F r c) r s t) := ht; have HB1 : Hid (Below w.heap.size w w1) := two_below (alloc_low _ _) hb; clear hb ht)
    | (go_at_call 30; refine (HN.out _).mono ?_; rintro e w2 ⟨rfl, rfl⟩))
  go_ret2
  refine ⟨_, rfl, ?_, HB1.out⟩
  unfold FreeS
  rw [← HK.out]
  simp only [beq_iff_eq]
  constructor
  · intro e
    have e2 : t = K := by omega
    rw [← e2]; exact HT.out
  · intro h
    have := RS.one HM.out HT.out h
    omega
set_option maxRecDepth 20000 in
set_option maxHeartbeats 1000000 in
theorem tFree_bad (w : World) (r c E : Int) (n k s : Nat) (a : Option Addr) (hs6 : s < 18446744073709551616) (h : BadE r c n s E) :
    Calls Try.prog 12 #[mv r c a n k, .int .u64 (s : Int)] w fun e w' => e = .returned (.tuple #[.bool false, .int .i64 E]) ∧ Below w.heap.size w w' := by
  have HC : Hid (∀ w' : World, Calls Try.prog 17 #[mv r c a n k, .int .u64 (s : Int)] w' fun e w'' => e = .returned (.tuple #[.int .i64 0, .int .i64 E]) ∧ Below w'.heap.size w' w'') := fun w' => tRank_bad w' r c E n k s a hs6 h
  have hE := h.ne
  clear h hs6
  go_enter Try.func12, Try.ntmps12
  go_wp2_with (go_at_call 17; refine (HC.out _).mono ?_; rintro e w1 ⟨rfl, hb⟩; have HB1 : Hid (Below w.heap.size w w1) := two_below (alloc_low _ _) hb; clear hb)
  go_ret2
  exact ⟨rfl, HB1.out⟩
end Go.Proofs.Ytflflmdlhmhkdab

namespace Go.Proofs.Ytflflmdlhmhkdab
open Go.RowKit
theorem bt_all (r i : Nat) : bt (2 ^ r - 1) i = 1 ↔ i < r := by
  rw [bt_iff, Nat.testBit_two_pow_sub_one]
  simp
theorem cn_all1 (r : Nat) : ∀ i, i ≤ r → cn (2 ^ r - 1) i = i := by
  intro i
  induction i with
  | zero => intro _; rfl
  | succ i ih => intro h; rw [cn_top, ih (by omega), (bt_all r i).2 (by omega)]
theorem lt_bits {z r : Nat} (h : ∀ i, bt z i = 1 → i < r) : z < 2 ^ r := by
  apply Nat.lt_pow_two_of_testBit
  intro i hi
  cases hb : z.testBit i with
  | false => rfl
  | true => have := h i ((bt_iff z i).2 hb); omega
theorem cnt_le7 (P : Nat → Bool) (n : Nat) : cnt P n ≤ n := by have := cnt_not P n; omega
theorem span_of {F D : Nat → Nat} {r c s d z : Nat} (hr : r ≤ 64) (hz : Nzt (2 ^ r - 1) d D r z) (hD : ∀ i, i < r → ((∀ j, j < d → D (i * d + j) = 0) ↔ SS (m2 F r c) r s (m2 F r c i))) : SpS (m2 F r c) r s z := by
  have h64 : cn (2 ^ r - 1) 64 = r := by rw [cn_all hr (by have := Nat.two_pow_pos r; omega), cn_all1 r r (Nat.le_refl _)]
  have hz2 : Nzt (2 ^ r - 1) d D (cn (2 ^ r - 1) 64) z := by rw [h64]; exact hz
  have h := hz2.all
  have hin : ∀ i, bt z i = 1 → i < r := fun i hb => by
    by_cases hi : i < 64
    · exact (bt_all r i).1 ((h i hi).1 hb).1
    · rw [bt_big hz.1 (by omega)] at hb; omega
  refine ⟨lt_bits hin, fun i hi => ?_⟩
  rw [h i (by omega), cn_all1 r i (by omega), hD i hi, bt_all]
  exact ⟨fun h => h.2, fun h => ⟨hi, h⟩⟩
theorem need_of {F D : Nat → Nat} {r c s d z : Nat} (hr : r ≤ 64) (hs : s < 2 ^ r) (hz : Nzt s d D (cn s r) z) (hD : ∀ i, i < r → bt s i = 1 → ((∀ j, j < d → D (cn s i * d + j) = 0) ↔ ¬ SS (m2 F r c) r (rem s i) (m2 F r c i))) : NeS (m2 F r c) r s z := by
  have hz2 : Nzt s d D (cn s 64) z := by rw [cn_all hr hs]; exact hz
  have h := hz2.all
  have hin : ∀ i, bt z i = 1 → i < r := fun i hb => by
    by_cases hi : i < 64
    · apply Classical.byContradiction
      intro hn
      have := ((h i hi).1 hb).1
      rw [bt_big hs (by omega)] at this
      omega
    · rw [bt_big hz.1 (by omega)] at hb; omega
  refine ⟨lt_bits hin, fun i hi => ?_⟩
  rw [h i (by omega)]
  exact ⟨fun h => ⟨h.1, (hD i hi h.1).1 h.2⟩, fun h => ⟨h.1, (hD i hi h.1).2 h.2⟩⟩
/-- The kernel of the rows, as Span needs it. -/
theorem ker_span (w : World) (r c n s K N : Nat) (g d : Nat) (F P : Nat → Nat) (hF : ∀ i, i < n → F i < 256) (R : Rt r c n) (hK : K = cn s r) (hP : P = pkf F (lf s r) c) (RK : Rt K c N) (hm : Mt w (some ⟨g, 0, none⟩) N d P) :
    Calls Try.prog 32 #[mv K c (some ⟨g, 0, none⟩) N d] w fun e w' => ∃ (x : Option Addr) (kr Nk dk : Nat) (H : Nat → Nat), e = .returned (.tuple #[mv kr c x Nk dk, .int .i64 0]) ∧ Mt w' x Nk dk H ∧ Rt kr c Nk ∧ (∀ i, i < r → ((∀ j, j < kr → prk F (trf H kr c) c kr c (i * kr + j) = 0) ↔ SS (m2 F r c) r s (m2 F r c i))) ∧ Below w.heap.size w w' := by
  subst hK
  subst hP
  refine (gker_ok w (cn s r) c N d (some ⟨g, 0, none⟩) _ hm RK).mono (fun e w' h => ?_)
  obtain ⟨x, dk, kr, top, p, G, H, he, hm2, hR, hS, hc, ek, eH, hb⟩ := h
  have hkc : kr ≤ c := by rw [ek]; exact cnt_le7 _ _
  exact ⟨x, kr, kr * c, dk, H, he, hm2, ⟨by have := R.c64; omega, R.c64, rfl⟩, fun i hi => span_row hF R hi hR hS hc ek eH, hb⟩
/-- The kernel of the columns, as Needed needs it. -/
theorem ker_need (w : World) (r c n s K N : Nat) (g d : Nat) (F P : Nat → Nat) (hF : ∀ i, i < n → F i < 256) (R : Rt r c n) (hs : s < 2 ^ r) (hK : K = cn s r) (hP : P = pkf F (lf s r) c) (RK : Rt K c N) (hm : Mt w (some ⟨g, 0, none⟩) N d (trf P K c)) :
    Calls Try.prog 32 #[mv c K (some ⟨g, 0, none⟩) N d] w fun e w' => ∃ (x : Option Addr) (kr Nk dk : Nat) (H : Nat → Nat), e = .returned (.tuple #[mv kr K x Nk dk, .int .i64 0]) ∧ Mt w' x Nk dk H ∧ Rt kr K Nk ∧ (∀ i, i < r → bt s i = 1 → ((∀ j, j < kr → trf H kr K (cn s i * kr + j) = 0) ↔ ¬ SS (m2 F r c) r (rem s i) (m2 F r c i))) ∧ Below w.heap.size w w' := by
  subst hK
  subst hP
  refine (gker_ok w c (cn s r) N d (some ⟨g, 0, none⟩) _ hm RK.turn).mono (fun e w' h => ?_)
  obtain ⟨x, dk, kr, top, p, G, H, he, hm2, hR, hS, hc, ek, eH, hb⟩ := h
  have hkc : kr ≤ cn s r := by rw [ek]; exact cnt_le7 _ _
  refine ⟨x, kr, kr * cn s r, dk, H, he, hm2, ⟨by have := RK.r64; omega, RK.r64, rfl⟩, fun i hi hb => ?_, hb⟩
  rw [← need_ker hF R hs hi hb hR hS hc ek eH]
  exact ⟨fun h u hu => by rw [← trf_at H kr (cn s r) u (cn s i) hu]; exact h u hu, fun h u hu => by rw [trf_at H kr (cn s r) u (cn s i) hu]; exact h u hu⟩
set_option maxRecDepth 20000 in
set_option maxHeartbeats 2000000 in
theorem tSpan_ok (w : World) (r c n k s : Nat) (a : Option Addr) (F : Nat → Nat) (ha : Mt w a n k F) (R : Rt r c n) (hs : s < 2 ^ r) :
    Calls Try.prog 15 #[mv r c a n k, .int .u64 (s : Int)] w fun e w' => ∃ p : Nat, e = .returned (.tuple #[.int .u64 (p : Int), .int .i64 0]) ∧ SpS (m2 F r c) r s p ∧ Below w.heap.size w w' := by
  have hr := R.r64
  obtain ⟨K, N, P, hK, HK, HP, HRk, _, HC⟩ := rows_facts w r c n k s a F ha R hs
  have HA : Hid (Mt w a n k F) := ha
  have HR : Hid (Rt r c n) := R
  have HF : Hid (∀ i, i < n → F i < 256) := ha.sl.1
  obtain ⟨A, HAl, HFu⟩ : ∃ A : Nat, Hid (2 ^ r - 1 = A) ∧ Hid (∀ w' : World, Calls Try.prog 34 #[.int .i64 (r : Int)] w' fun e w'' => e = .returned (.tuple #[.int .u64 (A : Int), .int .i64 0]) ∧ w' = w'') := ⟨2 ^ r - 1, rfl, fun w' => jfull_ok r w' hr⟩
  have HNo : Hid (∀ (w' : World) (d m q : Nat) (x : Option Addr) (D : Nat → Nat), Mt w' x m q D → Rt r d m → Calls Try.prog 29 #[mv r d x m q, .int .u64 (A : Int)] w' fun e w'' => ∃ z : Nat, e = .returned (.int .u64 (z : Int)) ∧ Nzt A d D r z ∧ Below w'.heap.size w' w'') := fun w' d m q x D hm hd => by
    have hA : A < 2 ^ r := by rw [← HAl.out]; have := Nat.two_pow_pos r; omega
    refine noughts_ok w' d m q A r x D hm (lt_64 hr hA) ?_ hd
    rw [cn_all hr hA, ← HAl.out, cn_all1 r r (Nat.le_refl _)]
  clear ha R hs
  go_enter Try.func15, Try.ntmps15
  go_wp2_with (first
    | (go_at_call 27; refine (HC.out _ (alloc_low _ _)).mono ?_; rintro e w1 ⟨g, rfl, hm1, hb1⟩; have HM1 : Hid (Mt w1 (some ⟨g, 0, none⟩) N N P) := hm1; have HB1 : Hid (Below w.heap.size w w1) := two_below (alloc_low _ _) hb1; have HV1 : Hid (Vr w1 w.heap.size (.int .i64 (r : Int)) (.int .i64 (c : Int)) (.slice a n k)) := (Vr.new w _ _ _).later hb1; have va := Vr.new w1 (.int .i64 (K : Int)) (.int .i64 (c : Int)) (.slice (some ⟨g, 0, none⟩) N N); have a0 := va.c0; have a1 := va.c1; have a2 := va.c2; clear hm1 hb1 va HC)
    | (go_at_call 32; refine (ker_span _ r c n s K N g N F P HF.out HR.out HK.out HP.out HRk.out (HM1.out.later (alloc_low _ _))).mono ?_; rintro e w2 ⟨x2, kr, Nk, d2, H, rfl, hm2, hR2, hq2, hb2⟩; have HM2 : Hid (Mt w2 x2 Nk d2 H) := hm2; have HRc : Hid (Rt kr c Nk) := hR2; have HQ : Hid (∀ i, i < r → ((∀ j, j < kr → prk F (trf H kr c) c kr c (i * kr + j) = 0) ↔ SS (m2 F r c) r s (m2 F r c i))) := hq2; have HB2 : Hid (Below w.heap.size w w2) := two_below (two_below HB1.out (alloc_low _ _)) hb2; have HV2 : Hid (Vr w2 w.heap.size (.int .i64 (r : Int)) (.int .i64 (c : Int)) (.slice a n k)) := (HV1.out.later (alloc_low _ _)).later hb2; have va := Vr.new w2 (.int .i64 (kr : Int)) (.int .i64 (c : Int)) (.slice x2 Nk d2); have b0 := va.c0; have b1 := va.c1; have b2 := va.c2; clear hm2 hR2 hq2 hb2 va HM1 HB1 HV1 HK HP HRk)
    | (go_at_call 31; refine (mtrans_ok _ kr c Nk d2 x2 H (HM2.out.later (alloc_low _ _)) HRc.out).mono ?_; rintro e w3 ⟨g3, rfl, hr3, _, hb3⟩; have HM3 : Hid (Mt w3 (some ⟨g3, 0, none⟩) Nk Nk (trf H kr c)) := hr3.mt (trf_lt HM2.out.sl.1 HRc.out); have HB3 : Hid (Below w.heap.size w w3) := two_below (two_below HB2.out (alloc_low _ _)) hb3; have HV3 : Hid (Vr w3 w.heap.size (.int .i64 (r : Int)) (.int .i64 (c : Int)) (.slice a n k)) := (HV2.out.later (alloc_low _ _)).later hb3; have va := Vr.new w3 (.int .i64 (c : Int)) (.int .i64 (kr : Int)) (.slice (some ⟨g3, 0, none⟩) Nk Nk); have c0 := va.c0; have c1 := va.c1; have c2 := va.c2; have vb := HV3.out.later (alloc_low w3 (.cells #[.int .i64 (c : Int), .int .i64 (kr : Int), .slice (some ⟨g3, 0, none⟩) Nk Nk] 24)); have e0 := vb.c0; have e1 := vb.c1; have e2 := vb.c2; clear hr3 hb3 va vb HM2 HB2 HV2; obtain ⟨Nd, HNd⟩ : ∃ x, Hid (r * kr = x) := ⟨_, rfl⟩)
    | (go_at_call 33; refine (mmul_ok _ r c kr n Nk Nd k Nk a (some ⟨g3, 0, none⟩) F (trf H kr c) (HA.out.later (two_below HB3.out (alloc_low _ _))) (HM3.out.later (alloc_low _ _)) HR.out HRc.out.turn ⟨HR.out.r64, HRc.out.r64, HNd.out⟩).mono ?_; rintro e w4 ⟨g4, rfl, hr4, _, hb4⟩; have HM4 : Hid (Mt w4 (some ⟨g4, 0, none⟩) Nd Nd (prk F (trf H kr c) c kr c)) := hr4.mt (prk_lt7 _ HF.out HR.out ⟨HR.out.r64, HRc.out.r64, HNd.out⟩); have HB4 : Hid (Below w.heap.size w w4) := two_below (two_below HB3.out (alloc_low _ _)) hb4; have HV4 : Hid (Vr w4 w.heap.size (.int .i64 (r : Int)) (.int .i64 (c : Int)) (.slice a n k)) := (HV3.out.later (alloc_low _ _)).later hb4; have va := Vr.new w4 (.int .i64 (r : Int)) (.int .i64 (kr : Int)) (.slice (some ⟨g4, 0, none⟩) Nd Nd); have f0 := va.c0; have f1 := va.c1; have f2 := va.c2; have vb := HV4.out.later (alloc_low w4 (.cells #[.int .i64 (r : Int), .int .i64 (kr : Int), .slice (some ⟨g4, 0, none⟩) Nd Nd] 24)); have h0 := vb.c0; clear hr4 hb4 va vb HM3 HB3 HV3)
    | (go_at_call 34; refine (HFu.out _).mono ?_; rintro e w' ⟨rfl, rfl⟩)
    | (go_at_call 29; refine (HNo.out _ kr Nd Nd (some ⟨g4, 0, none⟩) (prk F (trf H kr c) c kr c) (HM4.out.later (alloc_low _ _)) ⟨HR.out.r64, HRc.out.r64, HNd.out⟩).mono ?_; rintro e w5 ⟨z, rfl, hz5, hb5⟩; have HZ : Hid (Nzt A kr (prk F (trf H kr c) c kr c) r z) := hz5; have HB5 : Hid (Below w.heap.size w w5) := two_below (two_below HB4.out (alloc_low _ _)) hb5; clear hz5 hb5))
  go_ret2
  refine ⟨z, rfl, span_of hr ?_ HQ.out, HB5.out⟩
  rw [HAl.out]
  exact HZ.out
set_option maxRecDepth 20000 in
set_option maxHeartbeats 2000000 in
theorem tNeed_ok (w : World) (r c n k s : Nat) (a : Option Addr) (F : Nat → Nat) (ha : Mt w a n k F) (R : Rt r c n) (hs : s < 2 ^ r) :
    Calls Try.prog 14 #[mv r c a n k, .int .u64 (s : Int)] w fun e w' => ∃ p : Nat, e = .returned (.tuple #[.int .u64 (p : Int), .int .i64 0]) ∧ NeS (m2 F r c) r s p ∧ Below w.heap.size w w' := by
  have hr := R.r64
  obtain ⟨K, N, P, hK, HK, HP, HRk, HPb, HC⟩ := rows_facts w r c n k s a F ha R hs
  have HR : Hid (Rt r c n) := R
  have HF : Hid (∀ i, i < n → F i < 256) := ha.sl.1
  have HS : Hid (s < 2 ^ r) := hs
  have HNo : Hid (∀ (w' : World) (d m q : Nat) (x : Option Addr) (D : Nat → Nat), Mt w' x m q D → Rt K d m → Calls Try.prog 29 #[mv K d x m q, .int .u64 (s : Int)] w' fun e w'' => ∃ z : Nat, e = .returned (.int .u64 (z : Int)) ∧ Nzt s d D K z ∧ Below w'.heap.size w' w'') := fun w' d m q x D hm hd => noughts_ok w' d m q s K x D hm (lt_64 hr hs) (by rw [cn_all hr hs, HK.out]) hd
  clear ha R hs
  go_enter Try.func14, Try.ntmps14
  go_wp2_with (first
    | (go_at_call 27; refine (HC.out _ (alloc_low _ _)).mono ?_; rintro e w1 ⟨g, rfl, hm1, hb1⟩; have HM1 : Hid (Mt w1 (some ⟨g, 0, none⟩) N N P) := hm1; have HB1 : Hid (Below w.heap.size w w1) := two_below (alloc_low _ _) hb1; have va := Vr.new w1 (.int .i64 (K : Int)) (.int .i64 (c : Int)) (.slice (some ⟨g, 0, none⟩) N N); have a0 := va.c0; have a1 := va.c1; have a2 := va.c2; clear hm1 hb1 va HC)
    | (go_at_call 31; have _x := HM3; refine (mtrans_ok _ kr K Nk d3 x3 H (HM3.out.later (alloc_low _ _)) HRc.out).mono ?_; rintro e w4 ⟨g4, rfl, hr4, _, hb4⟩; have HM4 : Hid (Mt w4 (some ⟨g4, 0, none⟩) Nk Nk (trf H kr K)) := hr4.mt (trf_lt HM3.out.sl.1 HRc.out); have HB4 : Hid (Below w.heap.size w w4) := two_below (two_below HB3.out (alloc_low _ _)) hb4; have va := Vr.new w4 (.int .i64 (K : Int)) (.int .i64 (kr : Int)) (.slice (some ⟨g4, 0, none⟩) Nk Nk); have f0 := va.c0; have f1 := va.c1; have f2 := va.c2; clear hr4 hb4 va _x HB3)
    | (go_at_call 31; refine (mtrans_ok _ K c N N (some ⟨g, 0, none⟩) P (HM1.out.later (alloc_low _ _)) HRk.out).mono ?_; rintro e w2 ⟨g2, rfl, hr2, _, hb2⟩; have HM2 : Hid (Mt w2 (some ⟨g2, 0, none⟩) N N (trf P K c)) := hr2.mt (trf_lt HPb.out HRk.out); have HB2 : Hid (Below w.heap.size w w2) := two_below (two_below HB1.out (alloc_low _ _)) hb2; have va := Vr.new w2 (.int .i64 (c : Int)) (.int .i64 (K : Int)) (.slice (some ⟨g2, 0, none⟩) N N); have b0 := va.c0; have b1 := va.c1; have b2 := va.c2; clear hr2 hb2 va HB1 HM1)
    | (go_at_call 32; refine (ker_need _ r c n s K N g2 N F P HF.out HR.out HS.out HK.out HP.out HRk.out (HM2.out.later (alloc_low _ _))).mono ?_; rintro e w3 ⟨x3, kr, Nk, d3, H, rfl, hm3, hR3, hq3, hb3⟩; have HM3 : Hid (Mt w3 x3 Nk d3 H) := hm3; have HRc : Hid (Rt kr K Nk) := hR3; have HQ : Hid (∀ i, i < r → bt s i = 1 → ((∀ j, j < kr → trf H kr K (cn s i * kr + j) = 0) ↔ ¬ SS (m2 F r c) r (rem s i) (m2 F r c i))) := hq3; have HB3 : Hid (Below w.heap.size w w3) := two_below (two_below HB2.out (alloc_low _ _)) hb3; have va := Vr.new w3 (.int .i64 (kr : Int)) (.int .i64 (K : Int)) (.slice x3 Nk d3); have c0 := va.c0; have c1 := va.c1; have c2 := va.c2; clear hm3 hR3 hq3 hb3 va HM2 HB2)
    | (go_at_call 29; refine (HNo.out _ kr Nk Nk (some ⟨g4, 0, none⟩) (trf H kr K) (HM4.out.later (alloc_low _ _)) HRc.out.turn).mono ?_; rintro e w5 ⟨z, rfl, hz5, hb5⟩; have HZ : Hid (Nzt s kr (trf H kr K) K z) := hz5; have HB5 : Hid (Below w.heap.size w w5) := two_below (two_below HB4.out (alloc_low _ _)) hb5; clear hz5 hb5))
  go_ret2
  refine ⟨z, rfl, need_of hr HS.out ?_ HQ.out, HB5.out⟩
  rw [← HK.out]
  exact HZ.out
set_option maxRecDepth 20000 in
set_option maxHeartbeats 1000000 in
theorem tSpan_bad (w : World) (r c E : Int) (n k s : Nat) (a : Option Addr) (hs6 : s < 18446744073709551616) (h : BadE r c n s E) :
    Calls Try.prog 15 #[mv r c a n k, .int .u64 (s : Int)] w fun e w' => e = .returned (.tuple #[.int .u64 0, .int .i64 E]) ∧ Below w.heap.size w w' := by
  have HC : Hid (∀ w' : World, Calls Try.prog 27 #[mv r c a n k, .int .u64 (s : Int)] w' fun e w'' => e = .returned (.tuple #[mv 0 0 none 0 0, .int .i64 E]) ∧ Below w'.heap.size w' w'') := fun w' => rows_bad w' r c E n k s a hs6 h
  have hE := h.ne
  clear h hs6
  go_enter Try.func15, Try.ntmps15
  go_wp2_with (go_at_call 27; refine (HC.out _).mono ?_; rintro e w1 ⟨rfl, hb1⟩; have HB1 : Hid (Below w.heap.size w w1) := two_below (alloc_low _ _) hb1; clear hb1)
  go_ret2
  exact ⟨rfl, two_below HB1.out (alloc_low _ _)⟩
set_option maxRecDepth 20000 in
set_option maxHeartbeats 1000000 in
theorem tNeed_bad (w : World) (r c E : Int) (n k s : Nat) (a : Option Addr) (hs6 : s < 18446744073709551616) (h : BadE r c n s E) :
    Calls Try.prog 14 #[mv r c a n k, .int .u64 (s : Int)] w fun e w' => e = .returned (.tuple #[.int .u64 0, .int .i64 E]) ∧ Below w.heap.size w w' := by
  have HC : Hid (∀ w' : World, Calls Try.prog 27 #[mv r c a n k, .int .u64 (s : Int)] w' fun e w'' => e = .returned (.tuple #[mv 0 0 none 0 0, .int .i64 E]) ∧ Below w'.heap.size w' w'') := fun w' => rows_bad w' r c E n k s a hs6 h
  have hE := h.ne
  clear h hs6
  go_enter Try.func14, Try.ntmps14
  go_wp2_with (go_at_call 27; refine (HC.out _).mono ?_; rintro e w1 ⟨rfl, hb1⟩; have HB1 : Hid (Below w.heap.size w w1) := two_below (alloc_low _ _) hb1; clear hb1)
  go_ret2
  exact ⟨rfl, two_below HB1.out (alloc_low _ _)⟩
end Go.Proofs.Ytflflmdlhmhkdab
