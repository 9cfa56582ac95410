/-
  What the program's gauss answers, in the forms that the laws' walks take (here over a scratch package that only calls the reference).
  What the program's gauss answers of lists; the reference's, in the same words.
  What echelon forms tell: of what is sent to b, of inverses, of the rows that are no combination of those above.
  The library's functions that the program calls: their contracts at this program.
  The reduction's words: what is changed, rows that are slices of one list, grids.
  The changes: rows exchanged, multiplied, put to others.
  The changes: a row multiplied; a row's multiple put to another.
-/
import Derived.Test.YtflflmdlhmhkdabGf
import Derived.Test.YtflflmdlhmhkdabGc
import Derived.Test.YtflflmdlhmhkdabGd
import Derived.Shelf.Slices.Turned
import Derived.Shelf.Bytes.SlClone
import Derived.Shelf.Bytes.SlJoin
namespace Go.Proofs.Ytflflmdlhmhkdab
open Go.RowKit
/-- What Reduce answers of a right matrix. -/
def RedP (w w' : World) (e : Ending) (r c n : Nat) (F : Nat → Nat) : Prop := ∃ s d ps pd top p G, e = .returned (.tuple #[mv r c s n d, .slice ps top pd, .int .i64 0]) ∧ Mt w' s n d G ∧ Il w' ps top (fun i => (p i : Int)) ∧ Rdf (m2 G r c) r top p ∧ SpEq (m2 G r c) r (m2 F r c) r ∧ (∀ i, i < top → p i < c) ∧ Below w.heap.size w w'
theorem RedA.p {w w' : World} {e : Ending} {r c n : Nat} {F : Nat → Nat} (h : RedA w w' e r c n F) : RedP w w' e r c n F := by
  obtain ⟨s, d, ps, pd, top, p, G, he, ho, hi, hG, hr⟩ := h
  exact ⟨s, d, ps, pd, top, p, G, he, own_mt4 ho hG, hi.il, hr⟩
theorem RedP.later {w w1 w' : World} {e : Ending} {r c n : Nat} {F : Nat → Nat} (h : RedP w1 w' e r c n F) (hb : Below w.heap.size w w1) : RedP w w' e r c n F := by
  obtain ⟨s, d, ps, pd, top, p, G, he, hm, hi, hr, hs, hp, hb2⟩ := h
  exact ⟨s, d, ps, pd, top, p, G, he, hm, hi, hr, hs, hp, two_below hb hb2⟩
/-- Two answers are one. -/
theorem red_same {r c n t u : Nat} {p q F G H : Nat → Nat} (R : Rt r c n) (hR : Rdf (m2 G r c) r t p) (hS : SpEq (m2 G r c) r (m2 F r c) r) (hR2 : Rdf (m2 H r c) r u q) (hS2 : SpEq (m2 H r c) r (m2 F r c) r) : t = u ∧ (∀ i, i < t → p i = q i) ∧ ∀ x, x < n → G x = H x := by
  have hE := hS.trans hS2.symm
  obtain ⟨h1, h2, h3⟩ := hR.unique hR2 hE.1 hE.2
  refine ⟨h1, h2, fun x hx => ?_⟩
  obtain ⟨i, j, hi, hj, rfl⟩ := place_of R hx
  have := h3 i j hi hi
  rwa [m2_at _ hi hj, m2_at _ hi hj] at this
theorem Il.congr {w : World} {b : Option Addr} {m : Nat} {q q' : Nat → Int} (h : Il w b m q) (e : ∀ i, i < m → q i = q' i) : Il w b m q' := fun i hi => by
  obtain ⟨x, o, ea, hc⟩ := h i hi
  exact ⟨x, o, ea, by rw [← e i hi]; exact hc⟩
theorem pvt_congr {p q : Nat → Nat} {k : Nat} (h : ∀ i, i < k → p i = q i) (j : Nat) : pvt p k j = pvt q k j := by
  cases h1 : pvt p k j with
  | true =>
    obtain ⟨i, hi, e⟩ := (pvt_iff p k j).1 h1
    exact ((pvt_iff q k j).2 ⟨i, hi, by rw [← h i hi]; exact e⟩).symm
  | false =>
    cases h2 : pvt q k j with
    | false => rfl
    | true =>
      obtain ⟨i, hi, e⟩ := (pvt_iff q k j).1 h2
      exact absurd (by rw [h i hi]; exact e) (pvt_no h1 hi)
theorem fre_congr {p q : Nat → Nat} {k : Nat} (h : ∀ i, i < k → p i = q i) : fre p k = fre q k := funext fun j => by unfold fre; rw [pvt_congr h j]
/-- What Kernel answers of a right matrix. -/
def KerP (w w' : World) (e : Ending) (r c : Nat) (F : Nat → Nat) : Prop := ∃ s d kr top p G H, e = .returned (.tuple #[mv (kr : Nat) c s (kr * c) d, .int .i64 0]) ∧ Mt w' s (kr * c) d H ∧ Rdf (m2 G r c) r top p ∧ SpEq (m2 G r c) r (m2 F r c) r ∧ (∀ i, i < top → p i < c) ∧ kr = cnt (fre p top) c ∧ (∀ u l, u < kr → l < c → H (u * c + l) = kv (m2 G r c) p top (nth (fre p top) c u) l) ∧ Below w.heap.size w w'
theorem ker_same {r c kr kr2 t u : Nat} {p q F G G2 H H2 : Nat → Nat} (hR : Rdf (m2 G r c) r t p) (hS : SpEq (m2 G r c) r (m2 F r c) r) (hR2 : Rdf (m2 G2 r c) r u q) (hS2 : SpEq (m2 G2 r c) r (m2 F r c) r) (ek : kr = cnt (fre p t) c) (ek2 : kr2 = cnt (fre q u) c)
    (hH : ∀ v l, v < kr → l < c → H (v * c + l) = kv (m2 G r c) p t (nth (fre p t) c v) l) (hH2 : ∀ v l, v < kr2 → l < c → H2 (v * c + l) = kv (m2 G2 r c) q u (nth (fre q u) c v) l) : kr = kr2 ∧ ∀ x, x < kr * c → H x = H2 x := by
  have hE := hS.trans hS2.symm
  obtain ⟨rfl, h2, h3⟩ := hR.unique hR2 hE.1 hE.2
  have ef := fre_congr h2
  have e1 : kr = kr2 := by rw [ek, ek2, ef]
  refine ⟨e1, fun x hx => ?_⟩
  obtain ⟨v, l, hv, hl, rfl⟩ := pair_of hx
  rw [hH v l hv hl, hH2 v l (by omega) hl, ef]
  have hk := hR.kr
  unfold kv
  split
  · rfl
  · exact xs_congr (fun i hi => by dsimp only; rw [h2 i hi, h3 i _ (by omega) (by omega)])
/-- What Solve answers is one. -/
theorem sola_same {F X x z : Nat → Nat} {r c n : Nat} (hF : ∀ i, i < n → F i < 256) (R : Rt r c n) (h1 : SolA F X r c x) (h2 : SolA F X r c z) : ∀ j, j < c → x j = z j := by
  obtain ⟨hx, sx, R1, k1, p1, _, rd1, sp1, pc1, f1⟩ := h1
  obtain ⟨hz, sz, R2, k2, p2, _, rd2, sp2, _, f2⟩ := h2
  have hE := sp1.trans sp2.symm
  obtain ⟨rfl, e2, _⟩ := rd1.unique rd2 hE.1 hE.2
  exact sol_unique (m2_el hF R) rd1 pc1 sp1.1 hx hz sx sz f1 (fun j hj hf => f2 j hj (by rw [← pvt_congr e2]; exact hf))
theorem cmba_same {F Y x z : Nat → Nat} {r c n : Nat} (hF : ∀ i, i < n → F i < 256) (R : Rt r c n) (h1 : CmbA F Y r c x) (h2 : CmbA F Y r c z) : ∀ i, i < r → x i = z i :=
  fst_unique (m2_el hF R) h1.1 h2.1 (fun j => by rw [← h1.2 j, h2.2 j])
/-- What Inverse answers is one. -/
theorem inv_one {F O P : Nat → Nat} {r n : Nat} (hF : ∀ i, i < n → F i < 256) (hO : ∀ i, i < n → O i < 256) (hP : ∀ i, i < n → P i < 256) (R : Rt r r n) (hk : Rk (m2 F r r) r r) (h1 : ∀ i j, i < r → j < r → pr (m2 F r r) (m2 O r r) r i j = dl i j) (h2 : ∀ i j, i < r → j < r → pr (m2 F r r) (m2 P r r) r i j = dl i j) : ∀ x, x < n → O x = P x := by
  have hM := m2_el hF R
  obtain ⟨A, hA, hL, _⟩ := inv_ex hM (fun i j _ h => m2_cut F h) hk
  intro x hx
  obtain ⟨i, j, hi, hj, rfl⟩ := place_of R hx
  have e1 := inv_same hA hM (m2_el hO R) hL h1 i j hi hj
  have e2 := inv_same hA hM (m2_el hP R) hL h2 i j hi hj
  rw [m2_at _ hi hj] at e1 e2
  rw [← e1, e2]
theorem same_low (w : World) (a b : Option Addr) (n k d : Nat) (f h : Nat → Nat) (ha : Mt w a n k f) (hb : Mt w b n d h) (e : ∀ i, i < n → f i = h i) : Calls Try.prog 20 #[.slice a n k, .slice b n d] w fun e w' => e = .returned (.bool true) ∧ Below w.heap.size w w' :=
  (same_ans w a b n k d f h ha hb e).mono fun _ _ h => ⟨h.1, by rw [← h.2]; exact Below.refl _ _⟩
end Go.Proofs.Ytflflmdlhmhkdab

namespace Go.Proofs.Ytflflmdlhmhkdab
open Go.RowKit
/-- What Solve, Combine answer. -/
def LstP (w w' : World) (e : Ending) (n : Nat) (Q : (Nat → Nat) → Prop) : Prop := ∃ s d x, e = .returned (.tuple #[.slice s n d, .bool true, .int .i64 0]) ∧ Mt w' s n d x ∧ Q x ∧ Below w.heap.size w w'
def NoneP (w w' : World) (e : Ending) (E : Int) : Prop := e = .returned (.tuple #[.slice none 0 0, .bool false, .int .i64 E]) ∧ Below w.heap.size w w'
theorem ob_mt {w : World} {B n d : Nat} {s : Option Addr} {f : Nat → Nat} (h : Ob w B (.slice s n d) n f) (hf : ∀ i, i < n → f i < 256) : Mt w s n d f := own_mt4 h hf
/-- What First answers. -/
def FstP (w w' : World) (e : Ending) (r c : Nat) (F : Nat → Nat) : Prop := ∃ ps pd t q, e = .returned (.tuple #[.slice ps t pd, .int .i64 0]) ∧ Il w' ps t (fun i => (q i : Int)) ∧ FstL (m2 F r c) r t q ∧ Rk (m2 F r c) r t ∧ t ≤ r ∧ Below w.heap.size w w'
/-- What Inverse answers. -/
def InvP (w w' : World) (e : Ending) (r n : Nat) (F : Nat → Nat) : Prop := ∃ s d O, e = .returned (.tuple #[mv r r s n d, .int .i64 0]) ∧ Mt w' s n d O ∧ (∀ i j, i < r → j < r → pr (m2 F r r) (m2 O r r) r i j = dl i j) ∧ Below w.heap.size w w'
end Go.Proofs.Ytflflmdlhmhkdab

namespace Go.Proofs.Ytflflmdlhmhkdab
open Go.RowKit
/-- The matrix N beside M's first c columns. -/
def wd (M : Nat → Nat → Nat) (c : Nat) (N : Nat → Nat → Nat) (i j : Nat) : Nat := if j < c then M i j else N i (j - c)
theorem wd_el {M N : Nat → Nat → Nat} (hM : El2 M) (hN : El2 N) (c : Nat) : El2 (wd M c N) := fun i j => by unfold wd; split; exact hM _ _; exact hN _ _
theorem wd_l (M N : Nat → Nat → Nat) {c j : Nat} (i : Nat) (h : j < c) : wd M c N i j = M i j := if_pos h
theorem wd_r (M N : Nat → Nat → Nat) (c i j : Nat) : wd M c N i (c + j) = N i j := by unfold wd; rw [if_neg (by omega), Nat.add_sub_cancel_left]
theorem aug_ct {J M : Nat → Nat → Nat} {r c : Nat} {b : Nat → Nat} (hM : ∀ i j, i < r → c ≤ j → M i j = 0) (hS : Le J r (aug M c b) r) : ∀ i j, i < r → aug (ct J c) c (fun i => J i c) i j = J i j := fun i j hi => by
  unfold aug
  by_cases e : j = c
  · rw [if_pos e, e]
  · rw [if_neg e]
    by_cases h : j < c
    · exact ct_at J i h
    · rw [ct_cut J i (by omega)]
      exact (hS.cut (c := c + 1) (fun t l ht hl => by unfold aug; rw [if_neg (by omega)]; exact hM t l ht (by omega)) i j hi (by omega)).symm
/-- Reduced, with b beside it: what is put at the pivots is sent to b. -/
theorem sol_of_asc {J M : Nat → Nat → Nat} (hJ : El2 J) (_hM : El2 M) {r c top : Nat} {b p : Nat → Nat} (hb : El b) (hc : ∀ i j, i < r → c ≤ j → M i j = 0) (hS : SpEq J r (aug M c b) r) (hA : Asc J r top c p 0) (h0 : ∀ i, top ≤ i → i < r → J i c = 0) : Sol M r c b (pp p top (fun i => J i c)) := by
  have hd : El (fun i => J i c) := fun i => hJ i c
  have hS2 : SpEq (aug (ct J c) c (fun i => J i c)) r (aug M c b) r := hS.rows (aug_ct hc hS.1)
  exact sol_span (ct_el hJ c) hd hb hS2.2 (hA.rdf.sends (ct_el hJ c) hA.ech.lt hd h0)
theorem no_sol_ech {J M : Nat → Nat → Nat} (hJ : El2 J) (hM : El2 M) {r c top i : Nat} {b p : Nat → Nat} (hb : El b) (hc : ∀ i j, i < r → c ≤ j → M i j = 0) (hS : SpEq J r (aug M c b) r) (hE : Ech J r top c p) (hi : top ≤ i) (hir : i < r) (h0 : J i c ≠ 0) (x : Nat → Nat) : ¬ Sol M r c b x := by
  intro hx
  have hd : El (fun i => J i c) := fun i => hJ i c
  have hS2 : SpEq (aug (ct J c) c (fun i => J i c)) r (aug M c b) r := hS.rows (aug_ct hc hS.1)
  have h1 := sol_span hM hb hd hS2.1 hx i hir
  apply h0
  have h2 : dt (ct J c i) x c = J i c := h1
  rw [← h2]
  exact xs_zero (fun j hj => by rw [ct_at J i hj, hE.nul i j hi hir hj, zero_fm])
theorem wd_aug {F X : Nat → Nat} {r c : Nat} (i j : Nat) : wd (m2 F r c) c (m2 X r 1) i j = aug (m2 F r c) c (ext0 X r) i j := by
  unfold wd aug
  by_cases h : j < c
  · rw [if_pos h, if_neg (by omega)]
  · rw [if_neg h]
    by_cases e : j = c
    · subst e
      rw [if_pos rfl, Nat.sub_self]
      unfold ext0
      split
      · rename_i hi
        rw [m2_at X hi (by omega), Nat.mul_one, Nat.add_zero]
      · rename_i hi
        exact m2_low X (by omega)
    · rw [if_neg e, m2_cut X (by omega), m2_cut F (by omega)]
theorem sola_of {F X p : Nat → Nat} {J : Nat → Nat → Nat} {r c n top : Nat} (hJ : El2 J) (hF : ∀ i, i < n → F i < 256) (R : Rt r c n) (hX : ∀ i, i < r → X i < 256) (hS : SpEq J r (wd (m2 F r c) c (m2 X r 1)) r) (hA : Asc J r top c p 0) (h0 : ∀ i, top ≤ i → i < r → J i c = 0) : SolA F X r c (pp p top (fun i => J i c)) := by
  have hM := m2_el hF R
  have hc : ∀ i j, i < r → c ≤ j → m2 F r c i j = 0 := fun i j _ hj => m2_cut F hj
  have hS1 : SpEq J r (aug (m2 F r c) c (ext0 X r)) r := by
    rw [show aug (m2 F r c) c (ext0 X r) = wd (m2 F r c) c (m2 X r 1) from funext fun i => funext fun j => (wd_aug i j).symm]
    exact hS
  refine ⟨pp_el p top (fun i => hJ i c), sol_of_asc hJ hM (ext0_el hX) hc hS1 hA h0, ct J c, top, p, ct_el hJ c, hA.rdf, ?_, hA.ech.lt, fun j _ hf => pp_free _ hf⟩
  refine (hS1.ct c).trans (SpEq.rows (SpEq.refl hM r) (fun i j _ => ?_))
  by_cases h : j < c
  · rw [ct_at _ i h, aug_lt _ _ i h]
  · rw [ct_cut _ i (by omega), m2_cut F (by omega)]
theorem no_sola {F X p : Nat → Nat} {J : Nat → Nat → Nat} {r c n top i : Nat} (hJ : El2 J) (hF : ∀ i, i < n → F i < 256) (R : Rt r c n) (hX : ∀ i, i < r → X i < 256) (hS : SpEq J r (wd (m2 F r c) c (m2 X r 1)) r) (hE : Ech J r top c p) (hi : top ≤ i) (hir : i < r) (h0 : J i c ≠ 0) (x : Nat → Nat) : ¬ Sol (m2 F r c) r c (ext0 X r) x := by
  have hS1 : SpEq J r (aug (m2 F r c) c (ext0 X r)) r := by
    rw [show aug (m2 F r c) c (ext0 X r) = wd (m2 F r c) c (m2 X r 1) from funext fun i => funext fun j => (wd_aug i j).symm]
    exact hS
  exact no_sol_ech hJ (m2_el hF R) (ext0_el hX) (fun i j _ hj => m2_cut F hj) hS1 hE hi hir h0 x
/-- Reduced to the identity: what stood beside it is the inverse. -/
theorem inv_of_asc {J M N : Nat → Nat → Nat} (_hJ : El2 J) (_hM : El2 M) {r : Nat} {p : Nat → Nat} (hN : ∀ i j, i < r → j < r → N i j = dl i j) (hS : SpEq J r (wd M r N) r) (hA : Asc J r r r p 0) : ∀ i j, i < r → j < r → pr M (fun t l => J t (r + l)) r i j = dl i j := by
  have hf := hA.rdf.full hA.ech.lt
  have hJd : ∀ t l, t < r → l < r → J t l = dl t l := fun t l ht hl => by rw [← ct_at J t hl]; exact hf t l ht hl
  intro i j hi hj
  obtain ⟨a, ha, e⟩ := hS.2 i hi
  have h1 : ∀ t, t < r → a t = M i t := fun t ht => by
    have := e t
    rw [wd_l M N i ht] at this
    rw [this]
    unfold lc
    rw [xs_one ht (fun s hs hne => by rw [hJd s t hs ht, dl_ne (fun e => hne e.symm), fm_zero]), hJd t t ht ht, dl_self, fm_one _ (ha t)]
  have h2 := e (r + j)
  rw [wd_r, hN i j hi hj] at h2
  rw [h2]
  exact lc_congr (fun t ht => (h1 t ht).symm) (fun _ _ => rfl)
theorem kv_above {R : Nat → Nat → Nat} {r k j l : Nat} {p : Nat → Nat} (h : Rdf R r k p) (hl : j < l) : kv R p k j l = 0 := by
  unfold kv
  rw [if_neg (by omega)]
  refine xs_zero (fun i hi => ?_)
  split
  · rename_i e
    exact h.low i j hi (by omega)
  · rfl
/-- a's numbers ahead of place j, 1 there, 0 behind. -/
def fx (a : Nat → Nat) (j l : Nat) : Nat := if l < j then a l else if l = j then 1 else 0
theorem fx_lo (a : Nat → Nat) {j l : Nat} (h : l < j) : fx a j l = a l := if_pos h
theorem fx_at (a : Nat → Nat) (j : Nat) : fx a j j = 1 := by unfold fx; rw [if_neg (by omega), if_pos rfl]
theorem fx_hi (a : Nat → Nat) {j l : Nat} (h : j < l) : fx a j l = 0 := by unfold fx; rw [if_neg (by omega), if_neg (by omega)]
/-- The pivots of the matrix transposed are the rows that are no combination of those above. -/
theorem fst_pivot {M T R : Nat → Nat → Nat} (hM : El2 M) (hT : El2 T) (hR : El2 R) {r c k : Nat} {p : Nat → Nat} (hcut : ∀ i j, i < r → c ≤ j → M i j = 0) (e : ∀ i j, i < c → j < r → T i j = M j i) (h : Rdf R c k p) (hc : ∀ i, i < k → p i < r) (hS : SpEq R c T c) {j : Nat} (hj : j < r) : Fst M j ↔ pvt p k j = true := by
  constructor
  · intro hf
    cases hp : pvt p k j with
    | true => rfl
    | false =>
      exfalso
      apply hf
      have hz := h.kv hR hc hp hj
      refine ⟨kv R p k j, kv_el hR p k j, fun i => ?_⟩
      by_cases hi : i < c
      · have h1 : dt (T i) (kv R p k j) r = 0 := dt_span hR (hS.2 i hi) hz
        have h2 : dt (T i) (kv R p k j) r = lc (kv R p k j) M j i ^^^ M j i := by
          unfold dt
          rw [xs_congr (g := fun l => fm (kv R p k j l) (M l i)) (fun l hl => by rw [e i l hi hl, fm_comm _ _ (hM l i) (kv_el hR p k j l)])]
          rw [xs_ext (n := j + 1) (by omega) (fun l h1 h2 => by rw [kv_above h (by omega), zero_fm])]
          show xs (fun l => fm (kv R p k j l) (M l i)) j ^^^ fm (kv R p k j j) (M j i) = _
          rw [show kv R p k j j = 1 from if_pos rfl, one_fm _ (hM j i)]
          rfl
        rw [h1] at h2
        exact (xor_eq h2.symm).symm
      · rw [hcut j i hj (by omega)]
        exact (xs_zero (fun l hl => by rw [hcut l i (by omega) (by omega), fm_zero])).symm
  · intro hp hs
    obtain ⟨i, hi, rfl⟩ := (pvt_iff p k j).1 hp
    obtain ⟨a, ha, es⟩ := hs
    have h0 : ∀ t, t < c → dt (T t) (fx a (p i)) r = 0 := fun t ht => by
      unfold dt
      rw [xs_ext (n := p i + 1) (by omega) (fun l h1 h2 => by rw [fx_hi a (show p i < l by omega), fm_zero])]
      show xs (fun l => fm (T t l) (fx a (p i) l)) (p i) ^^^ fm (T t (p i)) (fx a (p i) (p i)) = 0
      rw [fx_at, fm_one _ (hT t (p i)), e t (p i) ht hj, es t]
      unfold lc
      rw [xs_congr (g := fun l => fm (a l) (M l t)) (fun l hl => by rw [fx_lo a hl, e t l ht (by omega), fm_comm _ _ (hM l t) (ha l)]), Nat.xor_self]
    have h1 := dt_span hT (hS.1 i (by have := h.kr; omega)) h0
    have h2 : dt (R i) (fx a (p i)) r = 1 := by
      unfold dt
      rw [xs_one hj (fun l hl hne => by
        by_cases hlt : l < p i
        · rw [h.low i l hi hlt, zero_fm]
        · rw [fx_hi a (show p i < l by omega), fm_zero]), fx_at, h.one i hi]
      exact fm_one 1 (by decide)
    rw [h2] at h1
    exact absurd h1 (by decide)
theorem fstl_of {M T R : Nat → Nat → Nat} (hM : El2 M) (hT : El2 T) (hR : El2 R) {r c k : Nat} {p : Nat → Nat} (hcut : ∀ i j, i < r → c ≤ j → M i j = 0) (e : ∀ i j, i < c → j < r → T i j = M j i) (h : Rdf R c k p) (hc : ∀ i, i < k → p i < r) (hS : SpEq R c T c) : FstL M r k p :=
  ⟨h.up, hc, fun i hi => (fst_pivot hM hT hR hcut e h hc hS (hc i hi)).2 ((pvt_iff p k _).2 ⟨i, hi, rfl⟩), fun _ hi hf => (pvt_iff p k _).1 ((fst_pivot hM hT hR hcut e h hc hS hi).1 hf)⟩
theorem m2_trf (F : Nat → Nat) {r c : Nat} : ∀ i j, i < c → j < r → m2 (trf F r c) c r i j = m2 F r c j i := fun i j hi hj => by rw [m2_at _ hi hj, m2_at _ hj hi, trf_at F r c j i hj]
theorem trf_lt {F : Nat → Nat} {r c n : Nat} (hF : ∀ i, i < n → F i < 256) (R : Rt r c n) : ∀ p, p < n → trf F r c p < 256 := by
  intro p hp
  have R2 : Rt c r n := ⟨R.c64, R.r64, by rw [Nat.mul_comm]; exact R.len⟩
  obtain ⟨j, i, hj, hi, rfl⟩ := place_of R2 hp
  rw [trf_at F r c i j hi]
  exact hF _ (R.at hi hj)
/-- The rank of the matrix transposed is the matrix's. -/
theorem rk_trf {F : Nat → Nat} {r c n k : Nat} (hF : ∀ i, i < n → F i < 256) (R : Rt r c n) (h : Rk (m2 (trf F r c) c r) c k) : Rk (m2 F r c) r k := by
  obtain ⟨l, hl⟩ := rk_ex (m2_el hF R) r
  have : l = k := rk_tpo (fun i j _ hj => m2_cut F hj) hl (h.at (fun i j hi => by
    unfold tpo
    by_cases hj : j < r
    · rw [if_pos hj, m2_trf F i j hi hj]
    · rw [if_neg hj, m2_cut _ (by omega)]))
  rw [← this]
  exact hl
/-- What Solve answers of the matrix transposed is what Combine asks for. -/
theorem cmba_of {F Y x : Nat → Nat} {r c n : Nat} (hF : ∀ i, i < n → F i < 256) (R : Rt r c n) (h : SolA (trf F r c) Y c r x) : CmbA F Y r c x := by
  obtain ⟨hx, hs, G, k, p, hG, hR, hS, hc, h0⟩ := h
  have hM := m2_el hF R
  have hT := m2_el (trf_lt hF R) R.turn
  refine ⟨⟨hx, fun i hi hne => ?_⟩, fun j => ?_⟩
  · refine (fst_pivot hM hT hG (fun i j _ hj => m2_cut F hj) (m2_trf F) hR hc hS hi).2 ?_
    cases hp : pvt p k i with
    | true => rfl
    | false => exact absurd (h0 i hi hp) hne
  · by_cases hj : j < c
    · rw [← hs j hj]
      exact xs_congr (fun l hl => by rw [m2_trf F j l hj hl, fm_comm _ _ (hM l j) (hx l)])
    · unfold ext0
      rw [if_neg hj]
      exact (xs_zero (fun l _ => by rw [m2_cut F (by omega), fm_zero])).symm
theorem sol_of_spn {F Y : Nat → Nat} {r c n : Nat} (hF : ∀ i, i < n → F i < 256) (R : Rt r c n) (h : Spn (m2 F r c) r (ext0 Y c)) : ∃ x, Sol (m2 (trf F r c) c r) c r (ext0 Y c) x := by
  obtain ⟨a, ha, e⟩ := h
  refine ⟨a, fun j hj => ?_⟩
  rw [e j]
  exact xs_congr (fun l hl => by rw [m2_trf F j l hj hl, fm_comm _ _ (ha l) (m2_el hF R l j)])
theorem spn_of_sol {F Y x : Nat → Nat} {r c n : Nat} (hF : ∀ i, i < n → F i < 256) (R : Rt r c n) (hx : El x) (hs : Sol (m2 (trf F r c) c r) c r (ext0 Y c) x) : Spn (m2 F r c) r (ext0 Y c) :=
  ⟨x, hx, fun j => by
    by_cases hj : j < c
    · rw [← hs j hj]
      exact xs_congr (fun l hl => by rw [m2_trf F j l hj hl, fm_comm _ _ (m2_el hF R l j) (hx l)])
    · unfold ext0
      rw [if_neg hj]
      exact (xs_zero (fun l _ => by rw [m2_cut F (by omega), fm_zero])).symm⟩
end Go.Proofs.Ytflflmdlhmhkdab

namespace Go.Proofs.Ytflflmdlhmhkdab
open Go.RowKit
def renI : Go.Shelf.Ren := ⟨fun | 107 => 66 | 108 => 79 | n => n, fun | 28 => 37 | 3 => 3 | 4 => 4 | 0 => 0 | n => n, fun | n => n⟩
theorem laysI : Go.Proofs.Lays.n107 Try.prog renI := {
  mixed := by kernel_rfl
  f107 := Try.func66.trans (congrArg some (by kernel_rfl))
  f108 := Try.func79.trans (congrArg some (by kernel_rfl))
  t0 := Try.underlying0
  a0 := Try.isAgg0
  z0 := Try.sizeOf0
  v0 := Try.zeroValue0
  t3 := Try.underlying3
  a3 := Try.isAgg3
  z3 := Try.sizeOf3
  v3 := Try.zeroValue3
  t4 := Try.underlying4
  a4 := Try.isAgg4
  z4 := Try.sizeOf4
  v4 := Try.zeroValue4
  t28 := Try.underlying37
  a28 := Try.isAgg37
  z28 := Try.sizeOf37
  v28 := Try.zeroValue37 }
def renC : Go.Shelf.Ren := ⟨fun | 4 => 45 | n => n, fun | 22 => 22 | 4 => 4 | 5 => 5 | n => n, fun | n => n⟩
theorem laysC : Go.Proofs.SlLaysK.n4 Try.prog renC := {
  mixed := by kernel_rfl
  f4 := Try.func45.trans (congrArg some (by kernel_rfl))
  t4 := Try.underlying4
  a4 := Try.isAgg4
  z4 := Try.sizeOf4
  v4 := Try.zeroValue4
  t22 := Try.underlying22
  a22 := Try.isAgg22
  z22 := Try.sizeOf22
  v22 := Try.zeroValue22
  t5 := Try.underlying5
  i5 := by kernel_rfl }
def renJ : Go.Shelf.Ren := ⟨fun | 14 => 67 | 15 => 80 | n => n, fun | 26 => 80 | 22 => 22 | 3 => 3 | 4 => 4 | 0 => 0 | 9 => 9 | 20 => 20 | 5 => 5 | n => n, fun | n => n⟩
theorem laysJ : Go.Proofs.SlLaysJ.n14 Try.prog renJ := {
  mixed := by kernel_rfl
  f14 := Try.func67.trans (congrArg some (by kernel_rfl))
  f15 := Try.func80.trans (congrArg some (by kernel_rfl))
  t0 := Try.underlying0
  a0 := Try.isAgg0
  z0 := Try.sizeOf0
  v0 := Try.zeroValue0
  t3 := Try.underlying3
  a3 := Try.isAgg3
  z3 := Try.sizeOf3
  v3 := Try.zeroValue3
  t4 := Try.underlying4
  a4 := Try.isAgg4
  z4 := Try.sizeOf4
  v4 := Try.zeroValue4
  t9 := Try.underlying9
  a9 := Try.isAgg9
  z9 := Try.sizeOf9
  v9 := Try.zeroValue9
  t20 := Try.underlying20
  a20 := Try.isAgg20
  z20 := Try.sizeOf20
  v20 := Try.zeroValue20
  t22 := Try.underlying22
  a22 := Try.isAgg22
  z22 := Try.sizeOf22
  v22 := Try.zeroValue22
  t26 := Try.underlying80
  a26 := Try.isAgg80
  z26 := Try.sizeOf80
  v26 := Try.zeroValue80
  t5 := Try.underlying5
  z5 := Try.sizeOf5
  i5 := by kernel_rfl }
/-- bytes.Clone of a list with room. -/
theorem clone_sl (w : World) (a : Option Addr) (n k : Nat) (F : Nat → Nat) (h : Sl w a n F) (hn : n ≤ 4096) : Calls Try.prog 45 #[.slice a n k] w fun e w' => ∃ s d, e = .returned (.slice s n d) ∧ Ob w' w.heap.size (.slice s n d) n F ∧ (s = none → n = 0 ∧ d = 0) ∧ Below w.heap.size w w' := by
  cases a with
  | none =>
    obtain rfl : n = 0 := Decidable.byContradiction fun hne => by
      obtain ⟨b, o, e, _⟩ := h.2 0 (by omega)
      cases e
    refine (Any.bytes_Clone_nil laysC 0 k w).mono (fun e w' h => ?_)
    obtain ⟨rfl, rfl⟩ := h
    refine ⟨none, 0, rfl, ?_, fun _ => ⟨rfl, rfl⟩, Below.refl _ _⟩
    unfold Ob
    rw [row_empty]
    exact World.ownsRow_nil _ _ _ _
  | some x =>
    refine (Any.bytes_Clone_at laysC x n k ((List.range n).map fun i => ((F i : Nat) : Int)) w (by simp) (by omega) (fun i hi => ?_)).mono (fun e w' h => ?_)
    · obtain ⟨b, o, e, hc⟩ := h.2 i hi
      cases e
      rw [add_plain, hc]
      simp [hi]
    · obtain ⟨v, rfl, ho, _, hb⟩ := h
      have e1 : ((List.range n).map fun i => ((F i : Nat) : Int)).map (Value.int .u8) = (row n F).toList := by simp [row]
      rw [e1] at ho
      have ho' : Ob w' w.heap.size v n F := ho
      obtain ⟨s, d, rfl, h0⟩ : ∃ s d, v = .slice s n d ∧ (s = none → n = 0 ∧ d = 0) := by
        rcases ho'.2 with ⟨e, h0⟩ | ⟨g, cap, cur, e, _⟩
        · exact ⟨none, 0, by rw [e, h0], fun _ => ⟨h0, rfl⟩⟩
        · exact ⟨_, _, e, fun x => by cases x⟩
      exact ⟨s, d, rfl, ho', h0, hb⟩
/-- slices.Contains of a list of numbers. -/
theorem contains_il (w : World) (s : Option Addr) (n d j : Nat) (q : Nat → Nat) (h : Il w s n (fun i => (q i : Int))) (hn : n ≤ 64) : Calls Try.prog 66 #[.slice s n d, .int .i64 (j : Int)] w fun e w' => e = .returned (.bool (pvt q n j)) ∧ w = w' := by
  cases n with
  | zero =>
    refine (Any.slices_Contains_int_empty laysI s d j w).mono (fun e w' h => ?_)
    obtain ⟨rfl, rfl⟩ := h
    exact ⟨by simp [pvt], rfl⟩
  | succ n =>
    obtain ⟨x, o, rfl, _⟩ := h 0 (by omega)
    refine (Any.slices_Contains_int laysI x o (n + 1) d ((List.range (n + 1)).map fun i => ((q i : Nat) : Int)) j w (by simp) (by omega) (fun i hi => ?_)).mono (fun e w' h => ?_)
    · have hi' : i < n + 1 := by simpa using hi
      obtain ⟨x', o', e, hc⟩ := h i hi'
      cases e
      rw [hc]
      simp [hi']
    · obtain ⟨rfl, rfl⟩ := h
      refine ⟨?_, rfl⟩
      have e1 : ((List.range (n + 1)).map fun i => ((q i : Nat) : Int)).take (n + 1) = (List.range (n + 1)).map fun i => ((q i : Nat) : Int) := List.take_of_length_le (by simp)
      rw [e1]
      congr 2
      rw [Bool.eq_iff_iff, pvt_iff]
      simp only [List.contains_iff_mem, List.mem_map, List.mem_range]
      constructor
      · rintro ⟨a, h1, h2⟩; exact ⟨a, h1, by omega⟩
      · rintro ⟨a, h1, h2⟩; exact ⟨a, h1, by omega⟩
end Go.Proofs.Ytflflmdlhmhkdab

namespace Go.Proofs.Ytflflmdlhmhkdab
open Go.RowKit
/-- Of the blocks that were there only those of S are changed. -/
structure Chg (w w' : World) (S : Nat → Prop) : Prop where
  os : w'.os = w.os
  tape : w'.tape = w.tape
  output : w'.output = w.output
  size : w.heap.size ≤ w'.heap.size
  block : ∀ k, k < w.heap.size → ¬ S k → w'.heap[k]? = w.heap[k]?
theorem Chg.refl (w : World) (S : Nat → Prop) : Chg w w S := ⟨rfl, rfl, rfl, Nat.le_refl _, fun _ _ _ => rfl⟩
theorem Chg.of_below {w w' : World} {S : Nat → Prop} (h : Below w.heap.size w w') : Chg w w' S := ⟨h.os, h.tape, h.output, h.size, fun k hk _ => h.block k hk⟩
theorem Chg.of_grown {w w' : World} {S : Nat → Prop} {g : Nat} (h : w.grownBy w' (some g)) (hs : S g) : Chg w w' S := ⟨h.os, h.tape, h.output, h.size, fun k hk hn => h.block k hk (fun e => hn (by cases e; exact hs))⟩
theorem Chg.trans {a b c : World} {S : Nat → Prop} (h : Chg a b S) (k : Chg b c S) : Chg a c S :=
  ⟨k.os.trans h.os, k.tape.trans h.tape, k.output.trans h.output, Nat.le_trans h.size k.size, fun i hi hn => (k.block i (Nat.lt_of_lt_of_le hi h.size) hn).trans (h.block i hi hn)⟩
theorem Chg.mono {a b : World} {S T : Nat → Prop} (h : Chg a b S) (hST : ∀ k, S k → T k) : Chg a b T := ⟨h.os, h.tape, h.output, h.size, fun i hi hn => h.block i hi (fun hs => hn (hST i hs))⟩
theorem Chg.at {w w' : World} {S : Nat → Prop} (h : Chg w w' S) {g : Nat} {o : Obj} (hg : w.heap[g]? = some o) (hn : ¬ S g) : w'.heap[g]? = some o := by rw [h.block g (lt_of_block hg) hn]; exact hg
theorem Chg.low {w w' : World} {S : Nat → Prop} (h : Chg w w' S) {B : Nat} (hB : B ≤ w.heap.size) (hS : ∀ k, S k → B ≤ k) : Below B w w' := ⟨h.os, h.tape, h.output, h.size, fun k hk => h.block k (Nat.lt_of_lt_of_le hk hB) (fun hs => by have := hS k hs; omega)⟩
theorem own_chg {w w' : World} {S : Nat → Prop} {B : Nat} {e : TypeId} {s : Nat} {v : Value} {n : Nat} {xs : List Value} (h : w.ownsRow B e s v n xs) (hc : Chg w w' S) (hn : ∀ g, v.ownBlock = some g → ¬ S g) : w'.ownsRow B e s v n xs := by
  refine ⟨h.1, ?_⟩
  rcases h.2 with h0 | ⟨g, cap, cur, e1, hb, hg, r⟩
  · exact .inl h0
  · exact .inr ⟨g, cap, cur, e1, hb, hc.at hg (hn g (by rw [e1]; rfl)), r⟩
theorem Sl.chg {w w' : World} {S : Nat → Prop} {a : Option Addr} {n : Nat} {f : Nat → Nat} (h : Sl w a n f) (hc : Chg w w' S) (hn : ∀ x, a = some x → ¬ S x.block) : Sl w' a n f :=
  ⟨h.1, fun i hi => by
    obtain ⟨b, o, e, hcl⟩ := h.2 i hi
    refine ⟨b, o, e, ?_⟩
    rw [← hcl]
    exact World.cell?_of_block (hc.block b (cell_lt hcl) (hn _ e))⟩
theorem bk_ne {w : World} {a b : Nat} {x y : Array Value} {t u : TypeId} {i j : Nat × Nat} (h : w.heap[a]? = some (.cells x t i)) (h2 : w.heap[b]? = some (.cells y u j)) (hne : t ≠ u) : a ≠ b := by
  intro e
  subst e
  rw [h] at h2
  have := Option.some.inj h2
  injection this with _ h3
  exact hne h3
theorem ownb {w : World} {B : Nat} {e : TypeId} {s : Nat} {v : Value} {n g : Nat} {xs : List Value} (h : w.ownsRow B e s v n xs) (hg : v.ownBlock = some g) : ∃ cur, w.heap[g]? = some (.cells cur e (0, 0)) := by
  rcases h.2 with ⟨e1, _⟩ | ⟨g', cap, cur, e1, hb, hg', r⟩
  · rw [e1] at hg; simp [Value.ownBlock] at hg
  · rw [e1] at hg
    have : g' = g := by simpa [Value.ownBlock] using hg
    subst this
    exact ⟨cur, hg'⟩
/-- The cells of a list of n rows, of k elements each. -/
def srow (n : Nat) (A : Nat → Option Addr) (k : Nat) : Array Value := (Array.range n).map fun i => .slice (A i) k k
theorem srow_get (n : Nat) (A : Nat → Option Addr) (k i : Nat) (h : i < n) : (srow n A k)[i]? = some (.slice (A i) k k) := by simp [srow, h]
theorem srow_size (n : Nat) (A : Nat → Option Addr) (k : Nat) : (srow n A k).size = n := by simp [srow]
theorem srow_set (n : Nat) (A : Nat → Option Addr) (k i : Nat) (a : Option Addr) : (srow n A k).setIfInBounds i (.slice a k k) = srow n (fun j => if j = i then a else A j) k := by
  apply Array.ext
  · simp [srow]
  · intro j h1 h2
    by_cases e : i = j
    · subst e; simp [srow]
    · rw [Array.getElem_setIfInBounds_ne (by simpa using h1) e]; simp [srow, Ne.symm e]
def SRowAt (w : World) (g n : Nat) (A : Nat → Option Addr) (k : Nat) : Prop := w.heap[g]? = some (.cells (srow n A k) 22 (0, 0))
theorem SRowAt.cell {w : World} {g n k : Nat} {A : Nat → Option Addr} (h : SRowAt w g n A k) {i : Nat} (hi : i < n) : w.cell? ⟨g, i, none⟩ = some (.slice (A i) k k) := by
  rw [cell_of_row w g i _ _ _ h, srow_get n A k i hi]
theorem SRowAt.free {w : World} {g n k : Nat} {A : Nat → Option Addr} (h : SRowAt w g n A k) (i : Nat) : w.frozen? ⟨g, i, none⟩ = false := by
  unfold SRowAt at h
  simp [World.frozen?, h]
theorem SRowAt.lt {w : World} {g n k : Nat} {A : Nat → Option Addr} (h : SRowAt w g n A k) : g < w.heap.size := lt_of_block h
theorem SRowAt.set {w : World} {g n k : Nat} {A : Nat → Option Addr} (h : SRowAt w g n A k) (i : Nat) (a : Option Addr) : SRowAt (w.setCell ⟨g, i, none⟩ (.slice a k k)) g n (fun j => if j = i then a else A j) k := by
  unfold SRowAt at *
  rw [setCell_eq_setRow w g i _ _ (0, 0) _ h, setRow_heap w g _ _ _ (0, 0) h, srow_set]
theorem SRowAt.congr {w : World} {g n k : Nat} {A A' : Nat → Option Addr} (h : SRowAt w g n A k) (e : ∀ i, i < n → A i = A' i) : SRowAt w g n A' k := by
  have : srow n A k = srow n A' k := by
    apply Array.ext
    · simp [srow]
    · intro j h1 h2
      have hj : j < n := by simpa [srow_size] using h1
      simp [srow, e j hj]
  unfold SRowAt at *
  rw [h, this]
/-- A list of n rows of k elements, all slices of one list: F's. -/
structure Grid (w : World) (B gr gd n k : Nat) (F : Nat → Nat → Nat) : Prop where
  base : B ≤ gr
  el : ∀ i l, i < n → l < k → F i l < 256
  ex : ∃ A : Nat → Option Addr, SRowAt w gr n A k ∧ (0 < k → 0 < n → ∃ (z D : Nat → Nat) (d : Nat), (∀ i, i < n → z i < n) ∧ (∀ i j, i < n → j < n → z i = z j → i = j) ∧ (∀ i, i < n → A i = some ⟨gd, z i * k, none⟩) ∧ Ob w B (.slice (some ⟨gd, 0, none⟩) (n * k) d) (n * k) D ∧ ∀ i l, i < n → l < k → D (z i * k + l) = F i l)
theorem Grid.congr {w : World} {B gr gd n k : Nat} {F G : Nat → Nat → Nat} (h : Grid w B gr gd n k F) (e : ∀ i l, i < n → l < k → F i l = G i l) : Grid w B gr gd n k G := by
  obtain ⟨A, hA, h2⟩ := h.ex
  refine ⟨h.base, fun i l hi hl => by rw [← e i l hi hl]; exact h.el i l hi hl, A, hA, fun hk hn => ?_⟩
  obtain ⟨z, D, d, h3, h4, h5, h6, h7⟩ := h2 hk hn
  exact ⟨z, D, d, h3, h4, h5, h6, fun i l hi hl => by rw [h7 i l hi hl]; exact e i l hi hl⟩
theorem Grid.blk {w : World} {B gr gd n k : Nat} {F : Nat → Nat → Nat} (h : Grid w B gr gd n k F) : ∃ cs, w.heap[gr]? = some (.cells cs 22 (0, 0)) := by
  obtain ⟨A, hA, _⟩ := h.ex
  exact ⟨_, hA⟩
theorem Grid.lt {w : World} {B gr gd n k : Nat} {F : Nat → Nat → Nat} (h : Grid w B gr gd n k F) : gr < w.heap.size := by
  obtain ⟨cs, hc⟩ := h.blk
  exact lt_of_block hc
theorem Grid.dat {w : World} {B gr gd n k : Nat} {F : Nat → Nat → Nat} (h : Grid w B gr gd n k F) (hk : 0 < k) (hn : 0 < n) : B ≤ gd ∧ gd < w.heap.size ∧ ∃ cs, w.heap[gd]? = some (.cells cs 5 (0, 0)) := by
  obtain ⟨A, hA, h2⟩ := h.ex
  obtain ⟨z, D, d, h3, h4, h5, h6, h7⟩ := h2 hk hn
  obtain ⟨cs, hc⟩ := ownb h6 rfl
  exact ⟨(h6.base rfl).1, lt_of_block hc, cs, hc⟩
theorem Grid.chg {w w' : World} {S : Nat → Prop} {B gr gd n k : Nat} {F : Nat → Nat → Nat} (h : Grid w B gr gd n k F) (hc : Chg w w' S) (h1 : ¬ S gr) (h2 : 0 < k → 0 < n → ¬ S gd) : Grid w' B gr gd n k F := by
  obtain ⟨A, hA, hx⟩ := h.ex
  refine ⟨h.base, h.el, A, hc.at hA h1, fun hk hn => ?_⟩
  obtain ⟨z, D, d, h3, h4, h5, h6, h7⟩ := hx hk hn
  exact ⟨z, D, d, h3, h4, h5, own_chg h6 hc (fun g hg => by cases hg; exact h2 hk hn), h7⟩
theorem Grid.later {w w' : World} {B gr gd n k : Nat} {F : Nat → Nat → Nat} (h : Grid w B gr gd n k F) (hb : Below w.heap.size w w') : Grid w' B gr gd n k F := h.chg (S := fun _ => False) (Chg.of_below hb) (fun x => x) (fun _ _ x => x)
theorem Grid.drew {w : World} {B gr gd n k : Nat} {F : Nat → Nat → Nat} (h : Grid w B gr gd n k F) : Grid w.drew B gr gd n k F := h.later (Below.refl _ _).drew
theorem spot_fit {i n k : Nat} (h : i < n) : i * k + k ≤ n * k := by
  have := Nat.mul_le_mul_right k (show i + 1 ≤ n from h)
  rwa [Nat.add_mul, Nat.one_mul] at this
/-- A row of it. -/
theorem Grid.row {w : World} {B gr gd n k : Nat} {F : Nat → Nat → Nat} (h : Grid w B gr gd n k F) {i : Nat} (hi : i < n) : ∃ a, w.cell? ⟨gr, i, none⟩ = some (.slice a k k) ∧ Sl w a k (F i) ∧ (0 < k → ∃ o, a = some ⟨gd, o, none⟩) := by
  obtain ⟨A, hA, hx⟩ := h.ex
  refine ⟨A i, hA.cell hi, ⟨fun l hl => h.el i l hi hl, fun l hl => ?_⟩, fun hk => ?_⟩
  · obtain ⟨z, D, d, h3, h4, h5, h6, h7⟩ := hx (by omega) (by omega)
    refine ⟨gd, z i * k, h5 i hi, ?_⟩
    rw [← h7 i l hi hl]
    exact h6.cell (by have := spot_fit (k := k) (h3 i hi); omega)
  · obtain ⟨z, D, d, h3, h4, h5, h6, h7⟩ := hx hk (by omega)
    exact ⟨_, h5 i hi⟩
theorem spot_ne {a b k p q : Nat} (hab : a ≠ b) (hp : p < k) (hq : q < k) : a * k + p ≠ b * k + q := by
  intro e
  have h1 : (a * k + p) / k = a := by rw [Nat.mul_comm, Nat.mul_add_div (by omega), Nat.div_eq_of_lt hp, Nat.add_zero]
  have h2 : (b * k + q) / k = b := by rw [Nat.mul_comm, Nat.mul_add_div (by omega), Nat.div_eq_of_lt hq, Nat.add_zero]
  rw [e, h2] at h1
  exact hab h1.symm
/-- A row is laid open to be written. -/
theorem Grid.open {w : World} {B gr gd n k : Nat} {F : Nat → Nat → Nat} (h : Grid w B gr gd n k F) (hk : 0 < k) {i : Nat} (hi : i < n) : ∃ (o d : Nat) (D : Nat → Nat), w.cell? ⟨gr, i, none⟩ = some (.slice (some ⟨gd, o, none⟩) k k) ∧ Ob w B (.slice (some ⟨gd, 0, none⟩) (n * k) d) (n * k) D ∧ o + k ≤ n * k ∧ Sl w (some ⟨gd, o, none⟩) k (F i) ∧
    ∀ (w1 w' : World) (y : Nat → Nat), Below w.heap.size w w1 → (∀ l, l < k → y l < 256) → Ob w' B (.slice (some ⟨gd, 0, none⟩) (n * k) d) (n * k) (cpf D y o k) → w1.grownBy w' (some gd) → Grid w' B gr gd n k (rw1 F i y) := by
  obtain ⟨A, hA, hx⟩ := h.ex
  obtain ⟨z, D, d, h3, h4, h5, h6, h7⟩ := hx hk (by omega)
  have hfit := spot_fit (k := k) (h3 i hi)
  refine ⟨z i * k, d, D, by rw [hA.cell hi, h5 i hi], h6, hfit, ?_, fun w1 w' y hb hy ho hg => ?_⟩
  · refine ⟨fun l hl => h.el i l hi hl, fun l hl => ⟨gd, z i * k, rfl, ?_⟩⟩
    rw [← h7 i l hi hl]
    exact h6.cell (by omega)
  · obtain ⟨cs, hcs⟩ := ownb h6 rfl
    have hne : gr ≠ gd := bk_ne hA hcs (by decide)
    have hA1 : SRowAt w1 gr n A k := by
      unfold SRowAt
      rw [hb.block gr hA.lt]; exact hA
    refine ⟨h.base, fun t l ht hl => ?_, A, ?_, fun _ _ => ⟨z, _, d, h3, h4, h5, ho, fun t l ht hl => ?_⟩⟩
    · unfold rw1
      split
      · exact hy l hl
      · exact h.el t l ht hl
    · unfold SRowAt
      rw [hg.block gr hA1.lt (by simpa using hne)]; exact hA1
    · unfold cpf rw1
      by_cases e : t = i
      · subst e
        rw [if_pos rfl, if_pos (by omega)]
        congr 1
        omega
      · rw [if_neg e, if_neg, h7 t l ht hl]
        rintro ⟨ha, hb'⟩
        have hq : z t * k + l - z i * k < k := by omega
        exact spot_ne (fun e2 => e (h4 t i ht hi e2)) hl hq (by omega)
theorem zsw_zsw (a b t : Nat) : zsw a b (zsw a b t) = t := by
  unfold zsw
  split
  · rename_i h
    split
    · rename_i h2; omega
    · rw [if_pos rfl, h]
  · rename_i h
    split
    · rename_i h2; rw [if_pos rfl, h2]
    · rfl
/-- Two rows change places: the slices alone. -/
theorem Grid.swap {w : World} {B gr gd n k a b : Nat} {F : Nat → Nat → Nat} (h : Grid w B gr gd n k F) (ha : a < n) (hb : b < n) : ∃ x y, w.cell? ⟨gr, a, none⟩ = some (.slice x k k) ∧ w.cell? ⟨gr, b, none⟩ = some (.slice y k k) ∧ (∀ i, w.frozen? ⟨gr, i, none⟩ = false) ∧ (∃ z, (w.setCell ⟨gr, a, none⟩ (.slice y k k)).cell? ⟨gr, b, none⟩ = some z) ∧ (w.setCell ⟨gr, a, none⟩ (.slice y k k)).frozen? ⟨gr, b, none⟩ = false ∧
    Grid ((w.setCell ⟨gr, a, none⟩ (.slice y k k)).setCell ⟨gr, b, none⟩ (.slice x k k)) B gr gd n k (swp F a b) := by
  obtain ⟨A, hA, hx⟩ := h.ex
  refine ⟨A a, A b, hA.cell ha, hA.cell hb, hA.free, ⟨_, (hA.set a (A b)).cell hb⟩, (hA.set a (A b)).free b, ?_⟩
  have hS := (hA.set a (A b)).set b (A a)
  have e : ∀ i, i < n → (if i = b then A a else if i = a then A b else A i) = A (zsw a b i) := fun i _ => by
    unfold zsw
    by_cases e1 : i = b
    · subst e1
      rw [if_pos rfl]
      by_cases e2 : i = a
      · rw [if_pos e2, e2]
      · rw [if_neg e2, if_pos rfl]
    · rw [if_neg e1]
      by_cases e2 : i = a
      · rw [if_pos e2, if_pos e2]
      · rw [if_neg e2, if_neg e2, if_neg e1]
  have es : ∀ i l, swp F a b i l = F (zsw a b i) l := fun i l => by
    unfold swp zsw
    by_cases e1 : i = a
    · rw [if_pos e1, if_pos e1]
    · rw [if_neg e1, if_neg e1]
      by_cases e2 : i = b
      · rw [if_pos e2, if_pos e2]
      · rw [if_neg e2, if_neg e2]
  refine ⟨h.base, fun i l hi hl => by rw [es]; exact h.el _ l (zsw_lt ha hb hi) hl, _, hS.congr e, fun hk hn => ?_⟩
  obtain ⟨z, D, d, h3, h4, h5, h6, h7⟩ := hx hk hn
  obtain ⟨cs, hcs⟩ := ownb h6 rfl
  have hne : gd ≠ gr := (bk_ne hA hcs (by decide)).symm
  refine ⟨fun i => z (zsw a b i), D, d, fun i hi => h3 _ (zsw_lt ha hb hi), fun i j hi hj hz => ?_, fun i hi => h5 _ (zsw_lt ha hb hi), ?_, fun i l hi hl => by rw [es]; exact h7 _ l (zsw_lt ha hb hi) hl⟩
  · have := h4 _ _ (zsw_lt ha hb hi) (zsw_lt ha hb hj) hz
    rw [← zsw_zsw a b i, this, zsw_zsw]
  · exact (h6.kept (grown_setCell _ _ _ _) (.inr (by simpa [Value.ownBlock] using hne))).kept (grown_setCell _ _ _ _) (.inr (by simpa [Value.ownBlock] using hne))
end Go.Proofs.Ytflflmdlhmhkdab

namespace Go.Proofs.Ytflflmdlhmhkdab
open Go.RowKit
theorem mkf : ∀ (fn : Fn) (first cap : Array Value) (w : World), (Instr.makeFunc fn first cap).run Try.prog w = .ok (.func fn first cap) w := fun _ _ _ _ => rfl
/-- A variable of one cell. -/
def V1 (w : World) (g : Nat) (v : Value) (t : TypeId) : Prop := w.heap[g]? = some (.cells #[v] t (0, 0))
theorem V1.cell {w : World} {g : Nat} {v : Value} {t : TypeId} (h : V1 w g v t) : w.cell? ⟨g, 0, none⟩ = some v := by rw [cell_of_row w g 0 _ _ _ h]; rfl
theorem V1.lt {w : World} {g : Nat} {v : Value} {t : TypeId} (h : V1 w g v t) : g < w.heap.size := lt_of_block h
theorem V1.later {w w' : World} {g : Nat} {v : Value} {t : TypeId} (h : V1 w g v t) (hb : Below w.heap.size w w') : V1 w' g v t := by unfold V1; rw [hb.block g h.lt]; exact h
theorem V1.chg {w w' : World} {S : Nat → Prop} {g : Nat} {v : Value} {t : TypeId} (h : V1 w g v t) (hc : Chg w w' S) (hn : ¬ S g) : V1 w' g v t := hc.at h hn
theorem V1.new (w : World) (v : Value) (t : TypeId) : V1 (w.alloc (.cells #[v] t)) w.heap.size v t := new_at w _
set_option maxHeartbeats 400000 in
theorem exch_mk (w : World) (i j : Nat) : Calls Try.prog 71 #[.int .i64 (i : Int), .int .i64 (j : Int)] w fun e w' => ∃ gi gj, e = .returned (.func (.func 84) #[] #[.pointer (some ⟨gj, 0, none⟩), .pointer (some ⟨gi, 0, none⟩)]) ∧ V1 w' gi (.int .i64 (i : Int)) 3 ∧ V1 w' gj (.int .i64 (j : Int)) 3 ∧ w.heap.size ≤ gi ∧ w.heap.size ≤ gj ∧ Below w.heap.size w w' := by
  have hmf := mkf
  go_enter Try.func71, Try.ntmps71
  go_wp2
  go_ret
  refine ⟨w.heap.size, w.heap.size + 1, rfl, (V1.new w _ _).later (alloc_low _ _), ?_, Nat.le_refl _, by omega, two_below (alloc_low _ _) (alloc_low _ _)⟩
  have := V1.new (w.alloc (.cells #[.int .i64 (i : Int)] 3)) (.int .i64 (j : Int)) 3
  simpa using this
set_option maxHeartbeats 400000 in
theorem mult_mk (w : World) (i c : Nat) : Calls Try.prog 73 #[.int .i64 (i : Int), .int .u8 (c : Int)] w fun e w' => ∃ gi gc, e = .returned (.func (.func 86) #[] #[.pointer (some ⟨gi, 0, none⟩), .pointer (some ⟨gc, 0, none⟩)]) ∧ V1 w' gi (.int .i64 (i : Int)) 3 ∧ V1 w' gc (.int .u8 (c : Int)) 5 ∧ w.heap.size ≤ gi ∧ w.heap.size ≤ gc ∧ Below w.heap.size w w' := by
  have hmf := mkf
  go_enter Try.func73, Try.ntmps73
  go_wp2
  go_ret
  refine ⟨w.heap.size, w.heap.size + 1, rfl, (V1.new w _ _).later (alloc_low _ _), ?_, Nat.le_refl _, by omega, two_below (alloc_low _ _) (alloc_low _ _)⟩
  have := V1.new (w.alloc (.cells #[.int .i64 (i : Int)] 3)) (.int .u8 (c : Int)) 5
  simpa using this
set_option maxHeartbeats 400000 in
theorem put_mk (w : World) (i c j : Nat) : Calls Try.prog 88 #[.int .i64 (i : Int), .int .u8 (c : Int), .int .i64 (j : Int)] w fun e w' => ∃ gi gc gj, e = .returned (.func (.func 94) #[] #[.pointer (some ⟨gi, 0, none⟩), .pointer (some ⟨gc, 0, none⟩), .pointer (some ⟨gj, 0, none⟩)]) ∧ V1 w' gi (.int .i64 (i : Int)) 3 ∧ V1 w' gc (.int .u8 (c : Int)) 5 ∧ V1 w' gj (.int .i64 (j : Int)) 3 ∧ w.heap.size ≤ gi ∧ w.heap.size ≤ gc ∧ w.heap.size ≤ gj ∧ Below w.heap.size w w' := by
  have hmf := mkf
  go_enter Try.func88, Try.ntmps88
  go_wp2
  go_ret
  refine ⟨w.heap.size, w.heap.size + 1, w.heap.size + 2, rfl, ((V1.new w _ _).later (alloc_low _ _)).later (alloc_low _ _), ?_, ?_, Nat.le_refl _, by omega, by omega, two_below (two_below (alloc_low _ _) (alloc_low _ _)) (alloc_low _ _)⟩
  · have := (V1.new (w.alloc (.cells #[.int .i64 (i : Int)] 3)) (.int .u8 (c : Int)) 5).later (alloc_low _ (.cells #[.int .i64 (j : Int)] 3))
    simpa using this
  · have := V1.new ((w.alloc (.cells #[.int .i64 (i : Int)] 3)).alloc (.cells #[.int .u8 (c : Int)] 5)) (.int .i64 (j : Int)) 3
    simpa using this
set_option maxHeartbeats 1000000 in
theorem exch_do (w : World) (B gr gd n k i j gi gj : Nat) (F : Nat → Nat → Nat) (G : Grid w B gr gd n k F) (hi : i < n) (hj : j < n) (nj : gr ≠ gj) (ci : w.cell? ⟨gi, 0, none⟩ = some (.int .i64 (i : Int))) (cj : w.cell? ⟨gj, 0, none⟩ = some (.int .i64 (j : Int))) :
    Calls Try.prog 84 #[.slice (some ⟨gr, 0, none⟩) n n, .pointer (some ⟨gj, 0, none⟩), .pointer (some ⟨gi, 0, none⟩)] w fun e w' => e = .returned (.tuple #[]) ∧ Grid w' B gr gd n k (swp F i j) ∧ Chg w w' (fun b => b = gr ∨ b = gd) := by
  obtain ⟨x, y, cx, cy, hf, ⟨z, cz⟩, fz, hG⟩ := G.swap hi hj
  have HG : Hid (Grid ((w.setCell ⟨gr, i, none⟩ (.slice y k k)).setCell ⟨gr, j, none⟩ (.slice x k k)) B gr gd n k (swp F i j)) := hG
  have hf1 := hf i
  have hf2 := hf j
  clear hG G hf
  go_enter Try.func84, Try.ntmps84
  go_wp2
  go_region
  all_goals go_end0
  all_goals exact ⟨rfl, HG.out.drew, ((Chg.of_grown (grown_setCell _ _ _ _) (.inl rfl)).trans (Chg.of_grown (grown_setCell _ _ _ _) (.inl rfl))).trans (Chg.of_below (Below.refl _ _).drew)⟩
end Go.Proofs.Ytflflmdlhmhkdab

namespace Go.Proofs.Ytflflmdlhmhkdab
open Go.RowKit
theorem wp_copy_ob {op : Oper} {a : Act} {w : World} {K : Act → World → Prop} {Q : Exit → Act → World → Prop} (d s : Operand) (ho : op.op = .call { callee := .builtin .copy, args := #[d, s], argTypes := #[22, 22] })
    (B g p n c dn dc sc b o : Nat) (f h : Nat → Nat) (hd : a.eval d = .slice (some ⟨g, p, none⟩) c dc) (hs : a.eval s = .slice (some ⟨b, o, none⟩) c sc) (hr : Ob w B (.slice (some ⟨g, 0, none⟩) n dn) n f) (hsl : Sl w (some ⟨b, o, none⟩) c h) (hfit : p + c ≤ n)
    (k : ∀ w', Hid (Ob w' B (.slice (some ⟨g, 0, none⟩) n dn) n (cpf f h p c)) → Hid (w.grownBy w' (some g)) → K (a.put op.dst (goInt c)) w') : Oper.wp Try.prog op a w K Q := by
  rcases hr.2 with ⟨e, _⟩ | ⟨g', cap, cur, e, hb, hg, hcap, hmax, hsz, ht⟩
  · cases e
  · cases e
    have hlen : (row c h).toList.length = c := by simp [row_size]
    have hsrc : ∀ j v, (row c h).toList[j]? = some v → w.cell? ((⟨b, o, none⟩ : Addr).add j) = some v := copy_news hsl (Below.refl _ _)
    have hrun := run_copy_row (P := Try.prog) w 22 22 op.type 5 g p c dc ⟨b, o, none⟩ c sc cur 5 (row c h).toList Try.underlying22 size8 hg (by rw [hlen]; exact (Nat.min_self c).symm) hsrc (by rw [hlen]; omega) (row_cells c h)
    rw [hlen, List.append_assoc] at hrun
    unfold Oper.wp
    simp [execOp, ho, resolve, invoke, builtin, hd, hs, hrun, Result.andThen]
    refine k _ ⟨by simp [row_size], .inr ⟨g, dn, _, rfl, hb, setRow_heap w g _ _ _ _ hg, hcap, hmax, by simp [row_size]; omega, ?_⟩⟩ (grown_setRow _ _ _)
    rw [Nat.mul_one] at ht ⊢
    rw [← cpf_row n p c f h hfit, ← ht]
    have hpn : p ≤ n := by omega
    rw [List.take_append, List.take_append, List.take_take, List.take_take, Nat.min_eq_right hpn, Nat.min_eq_left hpn]
    have l1 : (List.take p cur.toList).length = p := by simp; omega
    rw [l1, hlen, List.take_of_length_le (l := (row c h).toList) (by rw [hlen]; omega), List.drop_take, Nat.sub_sub]
theorem step_copy_ob {ops : Array Oper} {op : Oper} {a : Act} {w : World} {K : Act → World → Prop} {Q : Exit → Act → World → Prop} {E : Prop} (hgd : op.guard = none) (d s : Operand) (ho : op.op = .call { callee := .builtin .copy, args := #[d, s], argTypes := #[22, 22] })
    (B g p n c dn dc sc b o : Nat) (f h : Nat → Nat) (hd : a.eval d = .slice (some ⟨g, p, none⟩) c dc) (hs : a.eval s = .slice (some ⟨b, o, none⟩) c sc) (hr : Ob w B (.slice (some ⟨g, 0, none⟩) n dn) n f) (hsl : Sl w (some ⟨b, o, none⟩) c h) (hfit : p + c ≤ n)
    (k : ∀ w', Hid (Ob w' B (.slice (some ⟨g, 0, none⟩) n dn) n (cpf f h p c)) → Hid (w.grownBy w' (some g)) → K (a.put op.dst (goInt c)) w') : if Region.wanted op (yielded ops a.tmps) = true then Oper.wp Try.prog op a w K Q else E := by
  have hw : Region.wanted op (yielded ops a.tmps) = true := by simp [Region.wanted, hgd]
  rw [if_pos hw]
  exact wp_copy_ob d s ho B g p n c dn dc sc b o f h hd hs hr hsl hfit k
theorem undrew {w w1 : World} (h : Below w.drew.heap.size w.drew w1) : Below w.heap.size w w1 := two_below (Below.refl _ _).drew h
theorem keepg2 {w w' : World} {g b o : Nat} {v : Value} (hg : w.grownBy w' (some g)) (h : w.cell? ⟨b, o, none⟩ = some v) (hne : b ≠ g) : w'.cell? ⟨b, o, none⟩ = some v := hg.cell h (by simpa using hne)
theorem keepb2 {w w' : World} {b o : Nat} {v : Value} (hb : Below w.heap.size w w') (h : w.cell? ⟨b, o, none⟩ = some v) : w'.cell? ⟨b, o, none⟩ = some v := by rw [← h]; exact World.cell?_of_block (hb.block b (cell_lt h))
set_option maxRecDepth 20000 in
set_option maxHeartbeats 1000000 in
theorem mult_do (w : World) (B gr gd n k i c gi gc : Nat) (F : Nat → Nat → Nat) (G : Grid w B gr gd n k F) (hk : 0 < k) (hk6 : k ≤ 64) (hi : i < n) (hc : c < 256) (ni : gi ≠ gd) (nc : gc ≠ gd) (ci : w.cell? ⟨gi, 0, none⟩ = some (.int .i64 (i : Int))) (cc : w.cell? ⟨gc, 0, none⟩ = some (.int .u8 (c : Int))) :
    Calls Try.prog 86 #[.slice (some ⟨gr, 0, none⟩) n n, .pointer (some ⟨gi, 0, none⟩), .pointer (some ⟨gc, 0, none⟩)] w fun e w' => e = .returned (.tuple #[]) ∧ Grid w' B gr gd n k (mu1 F i c) ∧ Chg w w' (fun b => b = gr ∨ b = gd) := by
  obtain ⟨o, d, D, co, ho, hfit, hs, hclose⟩ := G.open hk hi
  have nr : gr ≠ gd := by
    obtain ⟨cs, h1⟩ := G.blk
    obtain ⟨_, _, cs2, h2⟩ := G.dat hk (by omega)
    exact bk_ne h1 h2 (by decide)
  have HO : Hid (Ob w B (.slice (some ⟨gd, 0, none⟩) (n * k) d) (n * k) D) := ho
  have HS : Hid (Sl w (some ⟨gd, o, none⟩) k (F i)) := hs
  have HC : Hid (∀ (w1 w' : World) (y : Nat → Nat), Below w.heap.size w w1 → (∀ l, l < k → y l < 256) → Ob w' B (.slice (some ⟨gd, 0, none⟩) (n * k) d) (n * k) (cpf D y o k) → w1.grownBy w' (some gd) → Grid w' B gr gd n k (rw1 F i y)) := hclose
  have HD : Hid (w.cell? ⟨gi, 0, none⟩ = some (.int .i64 (i : Int)) ∧ w.cell? ⟨gc, 0, none⟩ = some (.int .u8 (c : Int)) ∧ w.cell? ⟨gr, i, none⟩ = some (.slice (some ⟨gd, o, none⟩) k k)) := ⟨ci, cc, co⟩
  have HDr : Hid (w.drew.cell? ⟨gi, 0, none⟩ = some (.int .i64 (i : Int)) ∧ w.drew.cell? ⟨gc, 0, none⟩ = some (.int .u8 (c : Int)) ∧ w.drew.cell? ⟨gr, i, none⟩ = some (.slice (some ⟨gd, o, none⟩) k k)) := HD.out
  have HSr : Hid (Sl w.drew (some ⟨gd, o, none⟩) k (F i)) := hs
  clear G ho hs hclose
  go_enter Try.func86, Try.ntmps86
  go_wp2_with fail
  refine wp_region_held (S := fun w' => w'.cell? ⟨gi, 0, none⟩ = some (.int .i64 (i : Int)) ∧ w'.cell? ⟨gc, 0, none⟩ = some (.int .u8 (c : Int)) ∧ w'.cell? ⟨gr, i, none⟩ = some (.slice (some ⟨gd, o, none⟩) k k)) (by kernel_rfl) ?_
  refine wpAnyH_take (i := 0) (v := ?va0) rfl (by kernel_rfl) (by kernel_rfl) (by kernel_rfl) (fun _ _ _ h => h) (Or.inl ⟨by rfl, ?ya0⟩) HD.out ?za0
  case ya0 => (intro w hSw; (try dsimp only at hSw); go_simp; try with_reducible rfl)
  try simp only [List.getElem_toArray, List.getElem_cons_zero, Act.put, List.setIfInBounds_toArray, List.set_cons_zero, List.set_cons_succ]
  refine wpAnyH_take (i := 1) (v := ?va1) rfl (by kernel_rfl) (by kernel_rfl) (by kernel_rfl) (fun _ _ _ h => h) (Or.inl ⟨by rfl, ?ya1⟩) HD.out ?za1
  case ya1 => (intro w hSw; (try dsimp only at hSw); go_simp; try with_reducible rfl)
  try simp only [List.getElem_toArray, List.getElem_cons_succ, List.getElem_cons_zero, Act.put, List.setIfInBounds_toArray, List.set_cons_zero, List.set_cons_succ]
  refine wpAnyH_take (i := 2) (v := ?va2) rfl (by kernel_rfl) (by kernel_rfl) (by kernel_rfl) (fun _ _ _ h => h) (Or.inl ⟨by rfl, ?ya2⟩) HD.out ?za2
  case ya2 => (intro w hSw; (try dsimp only at hSw); go_simp; try with_reducible rfl)
  try simp only [List.getElem_toArray, List.getElem_cons_succ, List.getElem_cons_zero, Act.put, List.setIfInBounds_toArray, List.set_cons_zero, List.set_cons_succ]
  refine wpAnyH_take (i := 3) (v := ?va3) rfl (by kernel_rfl) (by kernel_rfl) (by kernel_rfl) (fun _ _ _ h => h) (Or.inl ⟨by rfl, ?ya3⟩) HD.out ?za3
  case ya3 => (intro w hSw; (try dsimp only at hSw); go_simp; try with_reducible rfl)
  try simp only [List.getElem_toArray, List.getElem_cons_succ, List.getElem_cons_zero, Act.put, List.setIfInBounds_toArray, List.set_cons_zero, List.set_cons_succ]
  refine wpAnyH_take (i := 4) (v := ?va4) rfl (by kernel_rfl) (by kernel_rfl) (by kernel_rfl) (fun _ _ _ h => h) (Or.inl ⟨by rfl, ?ya4⟩) HD.out ?za4
  case ya4 => (intro w hSw; (try dsimp only at hSw); go_simp; try with_reducible rfl)
  try simp only [List.getElem_toArray, List.getElem_cons_succ, List.getElem_cons_zero, Act.put, List.setIfInBounds_toArray, List.set_cons_zero, List.set_cons_succ]
  refine wpAnyH_take (i := 5) (v := ?va5) rfl (by kernel_rfl) (by kernel_rfl) (by kernel_rfl) (fun _ _ _ h => h) (Or.inl ⟨by rfl, ?ya5⟩) HD.out ?za5
  case ya5 => (intro w hSw; (try dsimp only at hSw); go_simp; try with_reducible rfl)
  try simp only [List.getElem_toArray, List.getElem_cons_succ, List.getElem_cons_zero, Act.put, List.setIfInBounds_toArray, List.set_cons_zero, List.set_cons_succ]
  refine wpAnyH_take (i := 6) (v := ?va6) rfl (by kernel_rfl) (by kernel_rfl) (by kernel_rfl) (fun _ _ _ h => h) (Or.inl ⟨by rfl, ?ya6⟩) HD.out ?za6
  case ya6 => (intro w hSw; (try dsimp only at hSw); go_simp; try with_reducible rfl)
  try simp only [List.getElem_toArray, List.getElem_cons_succ, List.getElem_cons_zero, Act.put, List.setIfInBounds_toArray, List.set_cons_zero, List.set_cons_succ]
  refine wpAnyH_take (i := 7) (v := ?va7) rfl (by kernel_rfl) (by kernel_rfl) (by kernel_rfl) (fun _ _ _ h => h) (Or.inl ⟨by rfl, ?ya7⟩) HD.out ?za7
  case ya7 => (intro w hSw; (try dsimp only at hSw); go_simp; try with_reducible rfl)
  try simp only [List.getElem_toArray, List.getElem_cons_succ, List.getElem_cons_zero, Act.put, List.setIfInBounds_toArray, List.set_cons_zero, List.set_cons_succ]
  refine wpAnyH_take (i := 8) (v := ?va8) rfl (by kernel_rfl) (by kernel_rfl) (by kernel_rfl) (fun _ _ _ h => h) (Or.inl ⟨by rfl, ?ya8⟩) HD.out ?za8
  case ya8 => (intro w hSw; (try dsimp only at hSw); go_simp; try with_reducible rfl)
  try simp only [List.getElem_toArray, List.getElem_cons_succ, List.getElem_cons_zero, Act.put, List.setIfInBounds_toArray, List.set_cons_zero, List.set_cons_succ]
  refine wpAnyH_ready (rs := [9]) (by kernel_rfl) (by simp) ?_
  refine AllReadyH.cons rfl (fun K hK => ?_) AllReadyH.nil
  go_simp
  refine (scale_any _ (some ⟨gd, o, none⟩) k c k _ hc HSr.out (by omega)).mono ?_
  rintro e w1 ⟨rfl, hr1, hb0⟩
  have hb1 := undrew hb0
  have HB1 : Hid (Below w.heap.size w w1) := hb1
  have HR1 : Hid (Sl w1 (some ⟨w.heap.size, 0, none⟩) k (fun l => fm c (F i l))) := RowAt.sl hr1 (fun l _ => fm_lt _ _ hc)
  have HO1 : Hid (Ob w1 B (.slice (some ⟨gd, 0, none⟩) (n * k) d) (n * k) D) := HO.out.later hb1
  have HD1 : Hid (w1.cell? ⟨gi, 0, none⟩ = some (.int .i64 (i : Int)) ∧ w1.cell? ⟨gc, 0, none⟩ = some (.int .u8 (c : Int)) ∧ w1.cell? ⟨gr, i, none⟩ = some (.slice (some ⟨gd, o, none⟩) k k)) := ⟨keepb2 hb1 ci, keepb2 hb1 cc, keepb2 hb1 co⟩
  clear hr1 hb0 hb1
  refine hK.out _ _ HD1.out (fun _ => ?_)
  clear hK K
  try simp only [List.getElem_toArray, List.getElem_cons_succ, List.getElem_cons_zero, Act.put, List.setIfInBounds_toArray, List.set_cons_zero, List.set_cons_succ]
  refine wpAnyH_ready (rs := [10]) (by kernel_rfl) (by simp) ?_
  refine AllReadyH.cons rfl (fun K hK => ?_) AllReadyH.nil
  refine step_copy_ob rfl _ _ rfl B gd o (n * k) k d k k w.heap.size 0 D _ rfl rfl HO1.out HR1.out hfit ?_
  intro w2 HO2 HG2
  have HD2 : Hid (w2.cell? ⟨gi, 0, none⟩ = some (.int .i64 (i : Int)) ∧ w2.cell? ⟨gc, 0, none⟩ = some (.int .u8 (c : Int)) ∧ w2.cell? ⟨gr, i, none⟩ = some (.slice (some ⟨gd, o, none⟩) k k)) := ⟨keepg2 HG2.out HD1.out.1 ni, keepg2 HG2.out HD1.out.2.1 nc, keepg2 HG2.out HD1.out.2.2 nr⟩
  refine hK.out _ _ HD2.out (fun _ => ?_)
  clear hK K
  try simp only [List.getElem_toArray, List.getElem_cons_succ, List.getElem_cons_zero, Act.put, List.setIfInBounds_toArray, List.set_cons_zero, List.set_cons_succ]
  refine wpAnyH_done (by kernel_rfl) ?_ _
  go_wp2
  go_end0
  exact ⟨rfl, HC.out w1 w2 _ HB1.out (fun l _ => fm_lt _ _ hc) HO2.out HG2.out, (Chg.of_below HB1.out).trans (Chg.of_grown HG2.out (.inr rfl))⟩
set_option maxRecDepth 20000 in
set_option maxHeartbeats 1000000 in
theorem put_do (w : World) (B gr gd n k i j c gi gc gj : Nat) (F : Nat → Nat → Nat) (G : Grid w B gr gd n k F) (hk : 0 < k) (hk6 : k ≤ 64) (hi : i < n) (hj : j < n) (hc : c < 256) (ci : w.cell? ⟨gi, 0, none⟩ = some (.int .i64 (i : Int))) (cc : w.cell? ⟨gc, 0, none⟩ = some (.int .u8 (c : Int))) (cj : w.cell? ⟨gj, 0, none⟩ = some (.int .i64 (j : Int))) :
    Calls Try.prog 94 #[.slice (some ⟨gr, 0, none⟩) n n, .pointer (some ⟨gi, 0, none⟩), .pointer (some ⟨gc, 0, none⟩), .pointer (some ⟨gj, 0, none⟩)] w fun e w' => e = .returned (.tuple #[]) ∧ Grid w' B gr gd n k (ad1 F i c j) ∧ Chg w w' (fun b => b = gr ∨ b = gd) := by
  obtain ⟨o, d, D, co, ho, hfit, hs, hclose⟩ := G.open hk hi
  obtain ⟨a2, ca, hs2, hx2⟩ := G.row hj
  obtain ⟨o2, rfl⟩ := hx2 hk
  have HO : Hid (Ob w B (.slice (some ⟨gd, 0, none⟩) (n * k) d) (n * k) D) := ho
  have HS : Hid (Sl w (some ⟨gd, o, none⟩) k (F i)) := hs
  have HS2 : Hid (Sl w (some ⟨gd, o2, none⟩) k (F j)) := hs2
  have HE : Hid (∀ l, l < k → F i l < 256) := fun l hl => G.el i l hi hl
  have HC : Hid (∀ (w1 w' : World) (y : Nat → Nat), Below w.heap.size w w1 → (∀ l, l < k → y l < 256) → Ob w' B (.slice (some ⟨gd, 0, none⟩) (n * k) d) (n * k) (cpf D y o k) → w1.grownBy w' (some gd) → Grid w' B gr gd n k (rw1 F i y)) := hclose
  have HD : Hid (w.cell? ⟨gi, 0, none⟩ = some (.int .i64 (i : Int)) ∧ w.cell? ⟨gc, 0, none⟩ = some (.int .u8 (c : Int)) ∧ w.cell? ⟨gr, i, none⟩ = some (.slice (some ⟨gd, o, none⟩) k k) ∧ w.cell? ⟨gj, 0, none⟩ = some (.int .i64 (j : Int)) ∧ w.cell? ⟨gr, j, none⟩ = some (.slice (some ⟨gd, o2, none⟩) k k)) := ⟨ci, cc, co, cj, ca⟩
  have HSr : Hid (Sl w.drew (some ⟨gd, o, none⟩) k (F i)) := hs
  have HSr2 : Hid (Sl w.drew (some ⟨gd, o2, none⟩) k (F j)) := hs2
  clear G ho hs hs2 hclose
  go_enter Try.func94, Try.ntmps94
  go_wp2_with fail
  refine wp_region_held (S := fun w' => w'.cell? ⟨gi, 0, none⟩ = some (.int .i64 (i : Int)) ∧ w'.cell? ⟨gc, 0, none⟩ = some (.int .u8 (c : Int)) ∧ w'.cell? ⟨gr, i, none⟩ = some (.slice (some ⟨gd, o, none⟩) k k) ∧ w'.cell? ⟨gj, 0, none⟩ = some (.int .i64 (j : Int)) ∧ w'.cell? ⟨gr, j, none⟩ = some (.slice (some ⟨gd, o2, none⟩) k k)) (by kernel_rfl) ?_
  refine wpAnyH_take (i := 0) (v := ?vb0) rfl (by kernel_rfl) (by kernel_rfl) (by kernel_rfl) (fun _ _ _ h => h) (Or.inl ⟨by rfl, ?yb0⟩) HD.out ?zb0
  case yb0 => (intro w hSw; (try dsimp only at hSw); go_simp; try with_reducible rfl)
  try simp only [List.getElem_toArray, List.getElem_cons_zero, Act.put, List.setIfInBounds_toArray, List.set_cons_zero, List.set_cons_succ]
  refine wpAnyH_take (i := 1) (v := ?vb1) rfl (by kernel_rfl) (by kernel_rfl) (by kernel_rfl) (fun _ _ _ h => h) (Or.inl ⟨by rfl, ?yb1⟩) HD.out ?zb1
  case yb1 => (intro w hSw; (try dsimp only at hSw); go_simp; try with_reducible rfl)
  try simp only [List.getElem_toArray, List.getElem_cons_succ, List.getElem_cons_zero, Act.put, List.setIfInBounds_toArray, List.set_cons_zero, List.set_cons_succ]
  refine wpAnyH_take (i := 2) (v := ?vb2) rfl (by kernel_rfl) (by kernel_rfl) (by kernel_rfl) (fun _ _ _ h => h) (Or.inl ⟨by rfl, ?yb2⟩) HD.out ?zb2
  case yb2 => (intro w hSw; (try dsimp only at hSw); go_simp; try with_reducible rfl)
  try simp only [List.getElem_toArray, List.getElem_cons_succ, List.getElem_cons_zero, Act.put, List.setIfInBounds_toArray, List.set_cons_zero, List.set_cons_succ]
  refine wpAnyH_take (i := 3) (v := ?vb3) rfl (by kernel_rfl) (by kernel_rfl) (by kernel_rfl) (fun _ _ _ h => h) (Or.inl ⟨by rfl, ?yb3⟩) HD.out ?zb3
  case yb3 => (intro w hSw; (try dsimp only at hSw); go_simp; try with_reducible rfl)
  try simp only [List.getElem_toArray, List.getElem_cons_succ, List.getElem_cons_zero, Act.put, List.setIfInBounds_toArray, List.set_cons_zero, List.set_cons_succ]
  refine wpAnyH_take (i := 4) (v := ?vb4) rfl (by kernel_rfl) (by kernel_rfl) (by kernel_rfl) (fun _ _ _ h => h) (Or.inl ⟨by rfl, ?yb4⟩) HD.out ?zb4
  case yb4 => (intro w hSw; (try dsimp only at hSw); go_simp; try with_reducible rfl)
  try simp only [List.getElem_toArray, List.getElem_cons_succ, List.getElem_cons_zero, Act.put, List.setIfInBounds_toArray, List.set_cons_zero, List.set_cons_succ]
  refine wpAnyH_take (i := 5) (v := ?vb5) rfl (by kernel_rfl) (by kernel_rfl) (by kernel_rfl) (fun _ _ _ h => h) (Or.inl ⟨by rfl, ?yb5⟩) HD.out ?zb5
  case yb5 => (intro w hSw; (try dsimp only at hSw); go_simp; try with_reducible rfl)
  try simp only [List.getElem_toArray, List.getElem_cons_succ, List.getElem_cons_zero, Act.put, List.setIfInBounds_toArray, List.set_cons_zero, List.set_cons_succ]
  refine wpAnyH_take (i := 6) (v := ?vb6) rfl (by kernel_rfl) (by kernel_rfl) (by kernel_rfl) (fun _ _ _ h => h) (Or.inl ⟨by rfl, ?yb6⟩) HD.out ?zb6
  case yb6 => (intro w hSw; (try dsimp only at hSw); go_simp; try with_reducible rfl)
  try simp only [List.getElem_toArray, List.getElem_cons_succ, List.getElem_cons_zero, Act.put, List.setIfInBounds_toArray, List.set_cons_zero, List.set_cons_succ]
  refine wpAnyH_take (i := 7) (v := ?vb7) rfl (by kernel_rfl) (by kernel_rfl) (by kernel_rfl) (fun _ _ _ h => h) (Or.inl ⟨by rfl, ?yb7⟩) HD.out ?zb7
  case yb7 => (intro w hSw; (try dsimp only at hSw); go_simp; try with_reducible rfl)
  try simp only [List.getElem_toArray, List.getElem_cons_succ, List.getElem_cons_zero, Act.put, List.setIfInBounds_toArray, List.set_cons_zero, List.set_cons_succ]
  refine wpAnyH_take (i := 8) (v := ?vb8) rfl (by kernel_rfl) (by kernel_rfl) (by kernel_rfl) (fun _ _ _ h => h) (Or.inl ⟨by rfl, ?yb8⟩) HD.out ?zb8
  case yb8 => (intro w hSw; (try dsimp only at hSw); go_simp; try with_reducible rfl)
  try simp only [List.getElem_toArray, List.getElem_cons_succ, List.getElem_cons_zero, Act.put, List.setIfInBounds_toArray, List.set_cons_zero, List.set_cons_succ]
  refine wpAnyH_ready (rs := [9]) (by kernel_rfl) (by simp) ?_
  refine AllReadyH.cons rfl (fun K hK => ?_) AllReadyH.nil
  go_simp
  refine (mac_any _ (some ⟨gd, o, none⟩) (some ⟨gd, o2, none⟩) k c k k _ _ hc HSr.out HSr2.out (by omega)).mono ?_
  rintro e w1 ⟨rfl, hr1, hb0⟩
  have hb1 := undrew hb0
  have HB1 : Hid (Below w.heap.size w w1) := hb1
  have HR1 : Hid (Sl w1 (some ⟨w.heap.size, 0, none⟩) k (fun l => F i l ^^^ fm c (F j l))) := RowAt.sl hr1 (fun l hl => xor_lt _ _ (HE.out l hl) (fm_lt _ _ hc))
  have HO1 : Hid (Ob w1 B (.slice (some ⟨gd, 0, none⟩) (n * k) d) (n * k) D) := HO.out.later hb1
  have HD1 : Hid (w1.cell? ⟨gi, 0, none⟩ = some (.int .i64 (i : Int)) ∧ w1.cell? ⟨gc, 0, none⟩ = some (.int .u8 (c : Int)) ∧ w1.cell? ⟨gr, i, none⟩ = some (.slice (some ⟨gd, o, none⟩) k k) ∧ w1.cell? ⟨gj, 0, none⟩ = some (.int .i64 (j : Int)) ∧ w1.cell? ⟨gr, j, none⟩ = some (.slice (some ⟨gd, o2, none⟩) k k)) := ⟨keepb2 hb1 ci, keepb2 hb1 cc, keepb2 hb1 co, keepb2 hb1 cj, keepb2 hb1 ca⟩
  have ci1 := HD1.out.1
  have co1 := HD1.out.2.2.1
  clear hr1 hb0 hb1
  refine hK.out _ _ HD1.out (fun _ => ?_)
  clear hK K
  try simp only [List.getElem_toArray, List.getElem_cons_succ, List.getElem_cons_zero, Act.put, List.setIfInBounds_toArray, List.set_cons_zero, List.set_cons_succ]
  refine wpAnyH_take (i := 10) (v := ?vb10) rfl (by kernel_rfl) (by kernel_rfl) (by kernel_rfl) (fun _ _ _ h => h) (Or.inl ⟨by rfl, ?yb10⟩) HD1.out ?zb10
  case yb10 => (intro w hSw; (try dsimp only at hSw); go_simp; try with_reducible rfl)
  try simp only [List.getElem_toArray, List.getElem_cons_succ, List.getElem_cons_zero, Act.put, List.setIfInBounds_toArray, List.set_cons_zero, List.set_cons_succ]
  refine wpAnyH_take (i := 11) (v := ?vb11) rfl (by kernel_rfl) (by kernel_rfl) (by kernel_rfl) (fun _ _ _ h => h) (Or.inl ⟨by rfl, ?yb11⟩) HD1.out ?zb11
  case yb11 => (intro w hSw; (try dsimp only at hSw); go_simp; try with_reducible rfl)
  try simp only [List.getElem_toArray, List.getElem_cons_succ, List.getElem_cons_zero, Act.put, List.setIfInBounds_toArray, List.set_cons_zero, List.set_cons_succ]
  refine wpAnyH_take (i := 12) (v := ?vb12) rfl (by kernel_rfl) (by kernel_rfl) (by kernel_rfl) (fun _ _ _ h => h) (Or.inl ⟨by rfl, ?yb12⟩) HD1.out ?zb12
  case yb12 => (intro w hSw; (try dsimp only at hSw); go_simp; try with_reducible rfl)
  try simp only [List.getElem_toArray, List.getElem_cons_succ, List.getElem_cons_zero, Act.put, List.setIfInBounds_toArray, List.set_cons_zero, List.set_cons_succ]
  refine wpAnyH_take (i := 13) (v := ?vb13) rfl (by kernel_rfl) (by kernel_rfl) (by kernel_rfl) (fun _ _ _ h => h) (Or.inl ⟨by rfl, ?yb13⟩) HD1.out ?zb13
  case yb13 => (intro w hSw; (try dsimp only at hSw); go_simp; try with_reducible rfl)
  try simp only [List.getElem_toArray, List.getElem_cons_succ, List.getElem_cons_zero, Act.put, List.setIfInBounds_toArray, List.set_cons_zero, List.set_cons_succ]
  refine wpAnyH_take (i := 14) (v := ?vb14) rfl (by kernel_rfl) (by kernel_rfl) (by kernel_rfl) (fun _ _ _ h => h) (Or.inl ⟨by rfl, ?yb14⟩) HD1.out ?zb14
  case yb14 => (intro w hSw; (try dsimp only at hSw); go_simp; try with_reducible rfl)
  try simp only [List.getElem_toArray, List.getElem_cons_succ, List.getElem_cons_zero, Act.put, List.setIfInBounds_toArray, List.set_cons_zero, List.set_cons_succ]
  refine wpAnyH_done (by kernel_rfl) ?_ _
  go_wp2_with (refine wpList_copy_ob rfl _ _ rfl B gd o (n * k) k k d k k w.heap.size 0 D _ rfl rfl HO1.out HR1.out (Nat.le_refl _) hfit ?_; intro w2 HO2 HG2)
  go_end0
  exact ⟨rfl, HC.out w1 w2 _ HB1.out (fun l hl => xor_lt _ _ (HE.out l hl) (fm_lt _ _ hc)) HO2.out HG2.out, (Chg.of_below HB1.out).trans (Chg.of_grown HG2.out (.inr rfl))⟩
end Go.Proofs.Ytflflmdlhmhkdab
