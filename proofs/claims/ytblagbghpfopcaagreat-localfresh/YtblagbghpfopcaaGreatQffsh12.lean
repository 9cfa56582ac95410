/-
  Rows and their combinations: spans, independence, no more independent rows than rows that span them. A matrix is a function of row and column; there is no last column.
  Reduced matrices: what their pivots tell; there is just one for each span. Ranks.
-/
import Derived.Test.YtblagbghpfopcaaGreatQffsh00
import Derived.Test.YtblagbghpfopcaaGreatQffsh05
set_option maxRecDepth 100000
set_option maxHeartbeats 16000000
namespace Go.Proofs.YtblagbghpfopcaaGreat
/-- All entries are elements. -/
def El2 (M : Nat → Nat → Nat) : Prop := ∀ i j, M i j < 256
/-- The combination of the first r rows with the factors a. -/
def lc (a : Nat → Nat) (M : Nat → Nat → Nat) (r : Nat) (j : Nat) : Nat := xs (fun i => fm (a i) (M i j)) r
/-- y is a combination of the first r rows. -/
def Spn (M : Nat → Nat → Nat) (r : Nat) (y : Nat → Nat) : Prop := ∃ a, El a ∧ ∀ j, y j = lc a M r j
/-- The first s rows of N are combinations of the first r rows of M. -/
def Le (N : Nat → Nat → Nat) (s : Nat) (M : Nat → Nat → Nat) (r : Nat) : Prop := ∀ i, i < s → Spn M r (N i)
/-- None of the first r rows is a combination of the others. -/
def Ind (M : Nat → Nat → Nat) (r : Nat) : Prop := ∀ a, El a → (∀ j, lc a M r j = 0) → ∀ i, i < r → a i = 0
def dl (k i : Nat) : Nat := if i = k then 1 else 0
theorem qjs (k : Nat) : El (dl k) := fun i => by unfold dl; split <;> decide
theorem qel (k : Nat) : dl k k = 1 := if_pos rfl
theorem dl_ne {k i : Nat} (h : i ≠ k) : dl k i = 0 := if_neg h
theorem lc_dl {M : Nat → Nat → Nat} (hM : El2 M) {r k : Nat} (hk : k < r) (j : Nat) : lc (dl k) M r j = M k j := by
 unfold lc
 rw [qbr hk (fun i _ hne => by rw [dl_ne hne, qac]), qel, qb7 _ (hM k j)]
theorem lc_lt {a : Nat → Nat} (ha : El a) (M : Nat → Nat → Nat) (r j : Nat) : lc a M r j < 256 := qhl (fun i _ => qaq _ _ (ha i))
theorem qb1 {a b : Nat → Nat} {M N : Nat → Nat → Nat} {r : Nat} {j : Nat} (h : ∀ i, i < r → a i = b i) (h2 : ∀ i, i < r → M i j = N i j) : lc a M r j = lc b N r j := qa7 (fun i hi => by rw [h i hi, h2 i hi])
theorem qhn (M : Nat → Nat → Nat) (r j : Nat) {a : Nat → Nat} (h : ∀ i, i < r → a i = 0) : lc a M r j = 0 := qag (fun i hi => by rw [h i hi, qac])
theorem qfe {a b : Nat → Nat} (ha : El a) (hb : El b) (M : Nat → Nat → Nat) (r j : Nat) : lc (fun i => a i ^^^ b i) M r j = lc a M r j ^^^ lc b M r j := by
 unfold lc
 rw [← qib]
 exact qa7 (fun i _ => xor_fm _ _ _ (ha i) (hb i))
theorem lc_mul {a : Nat → Nat} (ha : El a) {c : Nat} (hc : c < 256) (M : Nat → Nat → Nat) (r j : Nat) : lc (fun i => fm c (a i)) M r j = fm c (lc a M r j) := by
 unfold lc
 rw [qd3]
 exact qa7 (fun i _ => qam _ _ _ hc (ha i))
/-- A combination of combinations. -/
theorem lc_lc {x : Nat → Nat} (hx : El x) {A : Nat → Nat → Nat} (hA : El2 A) (M : Nat → Nat → Nat) (s r j : Nat) : lc x (fun i j => lc (A i) M r j) s j = lc (fun t => lc x A s t) M r j := by
 unfold lc
 have h1 : ∀ i, i < s → fm (x i) (xs (fun t => fm (A i t) (M t j)) r) = xs (fun t => fm (fm (x i) (A i t)) (M t j)) r := fun i _ => by
  rw [qd3]
  exact qa7 (fun t _ => (qam _ _ _ (hx i) (hA i t)).symm)
 rw [qa7 h1, qhm]
 exact qa7 (fun t _ => (qfw _ _ _ (fun i _ => qaq _ _ (hx i))).symm)
theorem Spn.el {M : Nat → Nat → Nat} {r : Nat} {y : Nat → Nat} (h : Spn M r y) : El y := by
 obtain ⟨a, ha, e⟩ := h
 intro j
 rw [e j]
 exact lc_lt ha M r j
theorem Spn.congr {M : Nat → Nat → Nat} {r : Nat} {y z : Nat → Nat} (h : Spn M r y) (e : ∀ j, z j = y j) : Spn M r z := by
 obtain ⟨a, ha, e'⟩ := h
 exact ⟨a, ha, fun j => by rw [e j, e' j]⟩
theorem Spn.rows {M N : Nat → Nat → Nat} {r : Nat} {y : Nat → Nat} (h : Spn M r y) (e : ∀ i j, i < r → M i j = N i j) : Spn N r y := by
 obtain ⟨a, ha, e'⟩ := h
 exact ⟨a, ha, fun j => by rw [e' j]; exact qb1 (fun _ _ => rfl) (fun i hi => e i j hi)⟩
theorem qab {M : Nat → Nat → Nat} (hM : El2 M) {r k : Nat} (hk : k < r) : Spn M r (M k) := ⟨dl k, qjs k, fun j => (lc_dl hM hk j).symm⟩
theorem qd4 (M : Nat → Nat → Nat) (r : Nat) : Spn M r (fun _ => 0) := ⟨fun _ => 0, fun _ => Nat.zero_lt_succ 255, fun j => (qhn M r j (fun _ _ => rfl)).symm⟩
theorem qcb {M : Nat → Nat → Nat} {r : Nat} {y z : Nat → Nat} (hy : Spn M r y) (hz : Spn M r z) : Spn M r (fun j => y j ^^^ z j) := by
 obtain ⟨a, ha, ea⟩ := hy
 obtain ⟨b, hb, eb⟩ := hz
 exact ⟨fun i => a i ^^^ b i, fun i => qbd _ _ (ha i) (hb i), fun j => by rw [qfe ha hb, ← ea j, ← eb j]⟩
theorem qb2 {M : Nat → Nat → Nat} {r c : Nat} (hc : c < 256) {y : Nat → Nat} (hy : Spn M r y) : Spn M r (fun j => fm c (y j)) := by
 obtain ⟨a, ha, ea⟩ := hy
 exact ⟨fun i => fm c (a i), fun i => qaq _ _ hc, fun j => by rw [lc_mul ha hc, ← ea j]⟩
theorem spn_lc {M N : Nat → Nat → Nat} {r s : Nat} (h : Le N s M r) {x : Nat → Nat} (hx : El x) : Spn M r (lc x N s) := by
 induction s with
 | zero => exact (qd4 M r).congr (fun j => rfl)
 | succ s ih => exact (qcb (ih (fun i hi => h i (by omega))) (qb2 (hx s) (h s (by omega)))).congr (fun j => rfl)
theorem Spn.trans {M N : Nat → Nat → Nat} {r s : Nat} {y : Nat → Nat} (hy : Spn N s y) (h : Le N s M r) : Spn M r y := by
 obtain ⟨x, hx, e⟩ := hy
 exact (spn_lc h hx).congr e
theorem Le.refl {M : Nat → Nat → Nat} (hM : El2 M) (r : Nat) : Le M r M r := fun _ hi => qab hM hi
theorem Le.trans {M N L : Nat → Nat → Nat} {r s t : Nat} (h : Le L t N s) (h2 : Le N s M r) : Le L t M r := fun i hi => (h i hi).trans h2
theorem Le.more {M : Nat → Nat → Nat} (hM : El2 M) {r s : Nat} (h : r ≤ s) : Le M r M s := fun _ hi => qab hM (by omega)
/-- Of a sum one place is taken out. -/
def sk (k i : Nat) : Nat := if i < k then i else i + 1
theorem xs_skip (f : Nat → Nat) (k : Nat) : ∀ s, k ≤ s → xs f (s + 1) = f k ^^^ xs (fun i => f (sk k i)) s := by
 intro s
 induction s with
 | zero =>
  intro h
  obtain rfl : k = 0 := by omega
  simp [xs]
 | succ s ih =>
  intro h
  by_cases e : k = s + 1
  ·subst e
   show xs f (s + 1) ^^^ f (s + 1) = _
   rw [Nat.xor_comm]
   congr 1
   exact qa7 (fun i hi => by unfold sk; rw [if_pos hi])
  ·have hk : k ≤ s := by omega
   show xs f (s + 1) ^^^ f (s + 1) = f k ^^^ (xs (fun i => f (sk k i)) s ^^^ f (sk k s))
   rw [ih hk, Nat.xor_assoc]
   congr 3
   unfold sk
   rw [if_neg (by omega)]
/-- x with X at place k, and behind it one further. -/
def ins (k X : Nat) (x : Nat → Nat) (i : Nat) : Nat := if i < k then x i else if i = k then X else x (i - 1)
theorem ins_at (k X : Nat) (x : Nat → Nat) : ins k X x k = X := by unfold ins; rw [if_neg (by omega), if_pos rfl]
theorem ins_sk (k X : Nat) (x : Nat → Nat) (i : Nat) : ins k X x (sk k i) = x i := by
 unfold ins sk
 by_cases h : i < k
 ·rw [if_pos h, if_pos h]
 ·rw [if_neg h, if_neg (by omega), if_neg (by omega), Nat.add_sub_cancel]
theorem ins_el {k X : Nat} {x : Nat → Nat} (hX : X < 256) (hx : El x) : El (ins k X x) := fun i => by unfold ins; split; exact hx _; split; exact hX; exact hx _
theorem qkv (x : Nat → Nat) (A : Nat → Nat → Nat) {k s : Nat} (h : k ≤ s) (j : Nat) : lc x A (s + 1) j = fm (x k) (A k j) ^^^ lc (fun i => x (sk k i)) (fun i => A (sk k i)) s j := xs_skip (fun i => fm (x i) (A i j)) k s h
/-- More rows than columns: some combination that is not nothing is 0 in all columns. -/
theorem homog : ∀ (r s : Nat) (A : Nat → Nat → Nat), El2 A → r < s → ∃ x, El x ∧ (∃ i, i < s ∧ x i ≠ 0) ∧ ∀ t, t < r → lc x A s t = 0 := by
 intro r
 induction r with
 | zero =>
  intro s A hA hs
  exact ⟨dl 0, qjs 0, ⟨0, hs, by rw [qel]; decide⟩, fun t ht => by omega⟩
 | succ r ih =>
  intro s A hA hs
  by_cases h0 : ∀ i, i < s → A i r = 0
  ·obtain ⟨x, hx, hn, hz⟩ := ih s A hA (by omega)
   refine ⟨x, hx, hn, fun t ht => ?_⟩
   by_cases e : t = r
   ·subst e
    exact qag (fun i hi => by rw [h0 i hi, qa9])
   ·exact hz t (by omega)
  ·obtain ⟨k, hk, hkr⟩ : ∃ k, k < s ∧ A k r ≠ 0 := by
    apply Classical.byContradiction
    intro hno
    exact h0 (fun i hi => Classical.byContradiction fun hne => hno ⟨i, hi, hne⟩)
   obtain ⟨s, rfl⟩ : ∃ s', s = s' + 1 := ⟨s - 1, by omega⟩
   have hv := qae (A k r)
   have hc : ∀ i, fm (A (sk k i) r) (finv (A k r)) < 256 := fun i => qaq _ _ (hA _ _)
   obtain ⟨x, hx, ⟨i1, hi1, hn1⟩, hz⟩ := ih s (fun i t => A (sk k i) t ^^^ fm (fm (A (sk k i) r) (finv (A k r))) (A k t)) (fun i t => qbd _ _ (hA _ _) (qaq _ _ (hc i))) (by omega)
   have hX : xs (fun i => fm (x i) (fm (A (sk k i) r) (finv (A k r)))) s < 256 := qhl (fun i _ => qaq _ _ (hx i))
   -- what the sum comes to in any column
   have key : ∀ t, lc (ins k (xs (fun i => fm (x i) (fm (A (sk k i) r) (finv (A k r)))) s) x) A (s + 1) t = lc x (fun i t => A (sk k i) t ^^^ fm (fm (A (sk k i) r) (finv (A k r))) (A k t)) s t := by
    intro t
    rw [qkv (k := k) _ _ (by omega), ins_at]
    have e1 : lc (fun i => ins k (xs (fun i => fm (x i) (fm (A (sk k i) r) (finv (A k r)))) s) x (sk k i)) (fun i => A (sk k i)) s t = xs (fun i => fm (x i) (A (sk k i) t)) s := qa7 (fun i _ => by dsimp only; rw [ins_sk])
    rw [e1, qfw _ _ _ (fun i _ => qaq _ _ (hx i)), ← qib]
    unfold lc
    exact qa7 (fun i _ => by rw [qfd, Nat.xor_comm, qam _ _ _ (hx i) (hc i)])
   refine ⟨ins k (xs (fun i => fm (x i) (fm (A (sk k i) r) (finv (A k r)))) s) x, ins_el hX hx, ⟨sk k i1, by unfold sk; split <;> omega, by rw [ins_sk]; exact hn1⟩, fun t ht => ?_⟩
   rw [key t]
   by_cases e : t = r
   ·subst e
    exact qag (fun i _ => by
     show fm (x i) (A (sk k i) t ^^^ fm (fm (A (sk k i) t) (finv (A k t))) (A k t)) = 0
     rw [qam _ _ _ (hA _ _) hv, qaf (finv _) _ hv (hA _ _), qar _ (hA _ _) hkr, qbe _ (hA _ _), Nat.xor_self, qa9])
   ·exact hz t (by omega)
/-- There are no more independent rows than rows of which they are combinations. -/
theorem steinitz {M N : Nat → Nat → Nat} {r s : Nat} (hN : Ind N s) (h : Le N s M r) : s ≤ r := by
 apply Classical.byContradiction
 intro hlt
 have hch : ∀ i, ∃ a, El a ∧ (i < s → ∀ j, N i j = lc a M r j) := fun i => by
  by_cases hi : i < s
  ·obtain ⟨a, ha, e⟩ := h i hi
   exact ⟨a, ha, fun _ => e⟩
  ·exact ⟨fun _ => 0, fun _ => Nat.zero_lt_succ 255, fun h => absurd h hi⟩
 obtain ⟨A, hA⟩ := Classical.axiomOfChoice hch
 have hA2 : El2 A := fun i j => (hA i).1 j
 obtain ⟨x, hx, ⟨i, hi, hne⟩, hz⟩ := homog r s A hA2 (by omega)
 refine hne (hN x hx (fun j => ?_) i hi)
 have e1 : lc x N s j = lc x (fun i j => lc (A i) M r j) s j := qb1 (fun _ _ => rfl) (fun i hi => (hA i).2 hi j)
 rw [e1, lc_lc hx hA2]
 exact qhn M r j hz
theorem qd5 {a b : Nat} (h : a ^^^ b = 0) : a = b := by
 have := congrArg (· ^^^ b) h
 simpa [Nat.xor_assoc] using this
/-- The first r rows of M are reduced, with k pivots in the columns p 0 < p 1 < .. -/
structure Rdf (M : Nat → Nat → Nat) (r k : Nat) (p : Nat → Nat) : Prop where
 kr : k ≤ r
 up : ∀ i t, i < t → t < k → p i < p t
 one : ∀ i, i < k → M i (p i) = 1
 off : ∀ i t, i < k → t < r → t ≠ i → M t (p i) = 0
 low : ∀ i j, i < k → j < p i → M i j = 0
 nul : ∀ i j, k ≤ i → i < r → M i j = 0
theorem Rdf.short {M : Nat → Nat → Nat} {r k : Nat} {p : Nat → Nat} (R : Rdf M r k p) (a : Nat → Nat) (j : Nat) : lc a M r j = lc a M k j :=
 qkt R.kr (fun i h1 h2 => by rw [R.nul i j h1 h2, qa9])
theorem Rdf.coord {M : Nat → Nat → Nat} {r k : Nat} {p : Nat → Nat} (R : Rdf M r k p) {a : Nat → Nat} (ha : El a) {t : Nat} (ht : t < k) : lc a M k (p t) = a t := by
 unfold lc
 have := R.kr
 rw [qbr ht (fun i hi hne => by rw [R.off t i ht (by omega) hne, qa9]), R.one t ht, qbe _ (ha t)]
theorem Rdf.put {M : Nat → Nat → Nat} {r k : Nat} {p : Nat → Nat} (R : Rdf M r k p) {y : Nat → Nat} (hy : Spn M r y) (j : Nat) : y j = lc (fun t => y (p t)) M k j := by
 obtain ⟨a, ha, e⟩ := hy
 rw [e j, R.short]
 refine qb1 (fun t ht => ?_) (fun _ _ => rfl)
 rw [e (p t), R.short, R.coord ha ht]
theorem Rdf.ind {M : Nat → Nat → Nat} {r k : Nat} {p : Nat → Nat} (R : Rdf M r k p) : Ind M k := fun a ha h i hi => by
 rw [← R.coord ha hi]
 exact h (p i)
/-- The first entry of a combination that is not nothing stands in a pivot's column. -/
theorem Rdf.lead {M : Nat → Nat → Nat} {r k : Nat} {p : Nat → Nat} (R : Rdf M r k p) {y : Nat → Nat} (hy : Spn M r y) {j : Nat} (hj : y j ≠ 0) : ∃ t, t < k ∧ y (p t) ≠ 0 ∧ ∀ j, j < p t → y j = 0 := by
 have hex : ∃ t, t < k ∧ y (p t) ≠ 0 := by
  apply Classical.byContradiction
  intro hno
  apply hj
  rw [R.put hy j]
  exact qhn M k j (fun t ht => Classical.byContradiction fun hne => hno ⟨t, ht, hne⟩)
 -- the least such t
 have hmin : ∀ n, (∃ t, t < n ∧ t < k ∧ y (p t) ≠ 0) → ∃ t, t < k ∧ y (p t) ≠ 0 ∧ ∀ s, s < t → y (p s) = 0 := by
  intro n
  induction n with
  | zero => rintro ⟨t, ht, _⟩; omega
  | succ n ih =>
   rintro ⟨t, ht, htk, hty⟩
   by_cases h : ∃ s, s < n ∧ s < k ∧ y (p s) ≠ 0
   ·exact ih h
   ·refine ⟨t, htk, hty, fun s hs => Classical.byContradiction fun hne => h ⟨s, by omega, by omega, hne⟩⟩
 obtain ⟨t0, h0⟩ := hex
 obtain ⟨t, ht, hty, hl⟩ := hmin k ⟨t0, h0.1, h0.1, h0.2⟩
 refine ⟨t, ht, hty, fun j hj => ?_⟩
 rw [R.put hy j]
 refine qag (fun i hi => ?_)
 by_cases h : i < t
 ·show fm (y (p i)) _ = 0
  rw [hl i h, qac]
 ·have : p t ≤ p i := by
   rcases Nat.eq_or_lt_of_le (Nat.le_of_not_lt h) with e | e
   ·rw [e]; exact Nat.le_refl _
   ·exact Nat.le_of_lt (R.up t i e hi)
  rw [R.low i j hi (by omega), qa9]
/-- Two rising lists with the same members are the same. -/
theorem qe1 {k l : Nat} {p q : Nat → Nat} (hp : ∀ i t, i < t → t < k → p i < p t) (hq : ∀ i t, i < t → t < l → q i < q t) (h1 : ∀ i, i < k → ∃ t, t < l ∧ p i = q t) (h2 : ∀ i, i < l → ∃ t, t < k ∧ q i = p t) : k = l ∧ ∀ i, i < k → p i = q i := by
 have key : ∀ (k l : Nat) (p q : Nat → Nat), (∀ i t, i < t → t < k → p i < p t) → (∀ i t, i < t → t < l → q i < q t) → (∀ i, i < k → ∃ t, t < l ∧ p i = q t) → (∀ i, i < l → ∃ t, t < k ∧ q i = p t) → ∀ i, i < k → i < l ∧ p i = q i := by
  intro k l p q hp hq h1 h2 i
  induction i using Nat.strongRecOn with
  | _ i ih =>
   intro hi
   obtain ⟨t, ht, et⟩ := h1 i hi
   have hti : i ≤ t := by
    apply Classical.byContradiction
    intro hlt
    have := (ih t (by omega) (by omega)).2
    have := hp t i (by omega) hi
    omega
   refine ⟨by omega, ?_⟩
   obtain ⟨s, hs, es⟩ := h2 i (by omega)
   have hsi : i ≤ s := by
    apply Classical.byContradiction
    intro hlt
    have := (ih s (by omega) (by omega)).2
    have := hq s i (by omega) (by omega)
    omega
   have a1 : p i ≤ p s := by
    rcases Nat.eq_or_lt_of_le hsi with e | e
    ·rw [e]; exact Nat.le_refl _
    ·exact Nat.le_of_lt (hp i s e hs)
   have a2 : q i ≤ q t := by
    rcases Nat.eq_or_lt_of_le hti with e | e
    ·rw [e]; exact Nat.le_refl _
    ·exact Nat.le_of_lt (hq i t e ht)
   omega
 have A := key k l p q hp hq h1 h2
 have B := key l k q p hq hp h2 h1
 refine ⟨?_, fun i hi => (A i hi).2⟩
 have : ¬ k < l := fun h => by have := (B k h).1; omega
 have : ¬ l < k := fun h => by have := (A l h).1; omega
 omega
theorem Rdf.in_pivots {M N : Nat → Nat → Nat} {r s k l : Nat} {p q : Nat → Nat} (RM : Rdf M r k p) (RN : Rdf N s l q) (h : Le M r N s) (i : Nat) (hi : i < k) : ∃ t, t < l ∧ p i = q t := by
 have := RM.kr
 obtain ⟨t, ht, hne, hl⟩ := RN.lead (h i (by omega)) (j := p i) (by rw [RM.one i hi]; decide)
 refine ⟨t, ht, ?_⟩
 have h1 : ¬ q t < p i := fun hlt => hne (RM.low i _ hi hlt)
 have h2 : ¬ p i < q t := fun hlt => by have := hl _ hlt; rw [RM.one i hi] at this; cases this
 omega
/-- Two reduced matrices with the same combinations are the same. -/
theorem Rdf.unique {M N : Nat → Nat → Nat} {r s k l : Nat} {p q : Nat → Nat} (RM : Rdf M r k p) (RN : Rdf N s l q) (h1 : Le M r N s) (h2 : Le N s M r) : k = l ∧ (∀ i, i < k → p i = q i) ∧ ∀ i j, i < r → i < s → M i j = N i j := by
 obtain ⟨rfl, e⟩ := qe1 RM.up RN.up (RM.in_pivots RN h1) (RN.in_pivots RM h2)
 refine ⟨rfl, e, fun i j hr hs => ?_⟩
 by_cases hi : i < k
 ·rw [RM.put (h2 i hs) j] at *
  have hM : El (M i) := (h1 i hr).el
  unfold lc
  have hk := RN.kr
  rw [qbr hi (fun t ht hne => by show fm (N i (p t)) _ = 0; rw [e t ht, RN.off t i ht (by omega) (Ne.symm hne), qac])]
  show _ = fm (N i (p i)) _
  rw [e i hi, RN.one i hi, qb7 _ (hM j)]
 ·rw [RM.nul i j (by omega) hr, RN.nul i j (by omega) hs]
/-- Same combinations. -/
def SpEq (M : Nat → Nat → Nat) (r : Nat) (N : Nat → Nat → Nat) (s : Nat) : Prop := Le M r N s ∧ Le N s M r
theorem SpEq.refl {M : Nat → Nat → Nat} (hM : El2 M) (r : Nat) : SpEq M r M r := ⟨Le.refl hM r, Le.refl hM r⟩
theorem SpEq.symm {M N : Nat → Nat → Nat} {r s : Nat} (h : SpEq M r N s) : SpEq N s M r := ⟨h.2, h.1⟩
theorem SpEq.trans {M N L : Nat → Nat → Nat} {r s t : Nat} (h : SpEq M r N s) (h2 : SpEq N s L t) : SpEq M r L t := ⟨h.1.trans h2.1, h2.2.trans h.2⟩
/-- The rank: so many independent rows have the same combinations. -/
def Rk (M : Nat → Nat → Nat) (r k : Nat) : Prop := ∃ N, El2 N ∧ Ind N k ∧ SpEq N k M r
theorem Rk.mono {M N : Nat → Nat → Nat} {r s k l : Nat} (hM : Rk M r k) (hN : Rk N s l) (h : Le N s M r) : l ≤ k := by
 obtain ⟨B, _, _, hB⟩ := hM
 obtain ⟨C, _, hC, hC2⟩ := hN
 exact steinitz hC (hC2.1.trans (h.trans hB.2))
theorem Rk.unique {M N : Nat → Nat → Nat} {r s k l : Nat} (hM : Rk M r k) (hN : Rk N s l) (h : SpEq M r N s) : k = l := Nat.le_antisymm (hN.mono hM h.1) (hM.mono hN h.2)
theorem Rk.le {M : Nat → Nat → Nat} {r k s : Nat} {N : Nat → Nat → Nat} (hM : Rk M r k) (h : Le M r N s) : k ≤ s := by
 obtain ⟨B, _, hI, hB⟩ := hM
 exact steinitz hI (hB.1.trans h)
theorem Rk.rows {M : Nat → Nat → Nat} {r k : Nat} (hE : El2 M) (hM : Rk M r k) : k ≤ r := hM.le (Le.refl hE r)
theorem Rk.span {M N : Nat → Nat → Nat} {r s k : Nat} (hM : Rk M r k) (h : SpEq M r N s) : Rk N s k := by
 obtain ⟨B, hE, hI, hB⟩ := hM
 exact ⟨B, hE, hI, hB.trans h⟩
theorem Rdf.rk {M : Nat → Nat → Nat} (hM : El2 M) {r k : Nat} {p : Nat → Nat} (R : Rdf M r k p) : Rk M r k :=
 ⟨M, hM, R.ind, Le.more hM R.kr, fun i hi => by
  by_cases h : i < k
  ·exact qab hM h
  ·exact (qd4 M k).congr (fun j => R.nul i j (by omega) hi)⟩
/-- The rank with one row more. -/
theorem Rk.same {M : Nat → Nat → Nat} (hM : El2 M) {r k : Nat} (h : Rk M r k) (hs : Spn M r (M r)) : Rk M (r + 1) k := h.span ⟨Le.more hM (by omega), fun i hi => by
 by_cases e : i = r
 ·subst e; exact hs
 ·exact qab hM (by omega)⟩
theorem Rk.more {M : Nat → Nat → Nat} (hM : El2 M) {r k : Nat} (h : Rk M r k) (hs : ¬ Spn M r (M r)) : Rk M (r + 1) (k + 1) := by
 obtain ⟨B, hE, hI, hB⟩ := h
 have e0 : ∀ (a : Nat → Nat) (j : Nat), lc a (fun i => if i = k then M r else B i) (k + 1) j = lc a B k j ^^^ fm (a k) (M r j) := by
  intro a j
  show xs (fun i => fm (a i) ((if i = k then M r else B i) j)) k ^^^ fm (a k) ((if k = k then M r else B k) j) = _
  rw [if_pos rfl]
  congr 1
  exact qa7 (fun i hi => by rw [if_neg (by omega)])
 have hE' : El2 (fun i => if i = k then M r else B i) := fun i j => by
  show (if i = k then M r else B i) j < 256
  split
  ·exact hM r j
  ·exact hE i j
 refine ⟨fun i => if i = k then M r else B i, hE', ?_, ?_, ?_⟩
 ·intro a ha hz i hi
  have hk : a k = 0 := Classical.byContradiction fun hne => hs (by
   have hv := qae (a k)
   have : Spn B k (fun j => fm (finv (a k)) (lc a B k j)) := qb2 hv ⟨a, ha, fun _ => rfl⟩
   refine (this.trans hB.1).congr (fun j => ?_)
   have e : lc a B k j = fm (a k) (M r j) := by
    have := hz j
    rw [e0] at this
    exact qd5 this
   rw [e, ← qam _ _ _ hv (ha k), qaf _ _ hv (ha k), qar _ (ha k) hne, qb7 _ (hM r j)])
  by_cases e : i = k
  ·rw [e]; exact hk
  ·refine hI a ha (fun j => ?_) i (by omega)
   have := hz j
   rw [e0, hk, qac, Nat.xor_zero] at this
   exact this
 ·intro i hi
  show Spn M (r + 1) (if i = k then M r else B i)
  split
  ·exact qab hM (by omega)
  ·exact (hB.1 i (by omega)).trans (Le.more hM (by omega))
 ·have hle : Le B k (fun i => if i = k then M r else B i) (k + 1) := fun i hi => by
   have := qab hE' (r := k + 1) (k := i) (by omega)
   exact this.congr (fun j => by show B i j = (if i = k then M r else B i) j; rw [if_neg (by omega)])
  intro i hi
  by_cases e : i = r
  ·subst e
   have := qab hE' (r := k + 1) (k := k) (by omega)
   exact this.congr (fun j => by show M i j = (if k = k then M i else B k) j; rw [if_pos rfl])
  ·exact (hB.2 i (by omega)).trans hle
theorem Rk.zero (M : Nat → Nat → Nat) : Rk M 0 0 := ⟨fun _ _ => 0, fun _ _ => Nat.zero_lt_succ 255, fun _ _ _ i hi => by omega, fun i hi => by omega, fun i hi => by omega⟩
theorem rk_ex {M : Nat → Nat → Nat} (hM : El2 M) (r : Nat) : ∃ k, Rk M r k := by
 induction r with
 | zero => exact ⟨0, Rk.zero M⟩
 | succ r ih =>
  obtain ⟨k, hk⟩ := ih
  by_cases h : Spn M r (M r)
  ·exact ⟨k, hk.same hM h⟩
  ·exact ⟨k + 1, hk.more hM h⟩
end Go.Proofs.YtblagbghpfopcaaGreat
