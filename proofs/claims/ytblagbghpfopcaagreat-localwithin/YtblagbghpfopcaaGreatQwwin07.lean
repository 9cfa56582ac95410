/-
  Rows and their combinations: spans, independence, no more independent rows than rows that span them. A matrix is a function of row and column; there is no last column.
  Reduced matrices: what their pivots tell; there is just one for each span. Ranks.
  What is done to rows: the combinations stay. Elimination, column by column.
  Ranks of a matrix transposed and of products; counting pivot columns and free ones.
  What a reduced form tells: what is sent to a list, what is sent to nothing, rows that are no combinations of those above, inverses.
-/
import Derived.Test.YtblagbghpfopcaaGreatQwwin00
import Derived.Test.YtblagbghpfopcaaGreatQwwin06
set_option maxRecDepth 100000
set_option maxHeartbeats 16000000
namespace Go.Proofs.YtblagbghpfopcaaGreat
/-- All entries are elements. -/
def El2 (M : Nat → Nat → Nat) : Prop := ∀ i j, M i j < 256
/-- The combination of the first r rows with the factors a. -/
def lc (a : Nat → Nat) (M : Nat → Nat → Nat) (r : Nat) (j : Nat) : Nat := xs (fun i => fm (a i) (M i j)) r
/-- y is a combination of the first r rows. -/
def Spn (M : Nat → Nat → Nat) (r : Nat) (y : Nat → Nat) : Prop := ∃ a, El a ∧ ∀ j, y j = lc a M r j
/-- The first s rows of N are combinations of the first r rows of M. -/
def Le (N : Nat → Nat → Nat) (s : Nat) (M : Nat → Nat → Nat) (r : Nat) : Prop := ∀ i, i < s → Spn M r (N i)
/-- None of the first r rows is a combination of the others. -/
def Ind (M : Nat → Nat → Nat) (r : Nat) : Prop := ∀ a, El a → (∀ j, lc a M r j = 0) → ∀ i, i < r → a i = 0
def dl (k i : Nat) : Nat := if i = k then 1 else 0
theorem qh7 (k : Nat) : El (dl k) := fun i => by unfold dl; split <;> decide
theorem qbs (k : Nat) : dl k k = 1 := if_pos rfl
theorem qfr {k i : Nat} (h : i ≠ k) : dl k i = 0 := if_neg h
theorem lc_dl {M : Nat → Nat → Nat} (hM : El2 M) {r k : Nat} (hk : k < r) (j : Nat) : lc (dl k) M r j = M k j := by
 unfold lc
 rw [qbe hk (fun i _ hne => by rw [qfr hne, qaa]), qbs, qaz _ (hM k j)]
theorem lc_lt {a : Nat → Nat} (ha : El a) (M : Nat → Nat → Nat) (r j : Nat) : lc a M r j < 256 := qh5 (fun i _ => qat _ _ (ha i))
theorem qb2 {a b : Nat → Nat} {M N : Nat → Nat → Nat} {r : Nat} {j : Nat} (h : ∀ i, i < r → a i = b i) (h2 : ∀ i, i < r → M i j = N i j) : lc a M r j = lc b N r j := qa4 (fun i hi => by rw [h i hi, h2 i hi])
theorem qh8 (M : Nat → Nat → Nat) (r j : Nat) {a : Nat → Nat} (h : ∀ i, i < r → a i = 0) : lc a M r j = 0 := qad (fun i hi => by rw [h i hi, qaa])
theorem qf6 {a b : Nat → Nat} (ha : El a) (hb : El b) (M : Nat → Nat → Nat) (r j : Nat) : lc (fun i => a i ^^^ b i) M r j = lc a M r j ^^^ lc b M r j := by
 unfold lc
 rw [← qgk]
 exact qa4 (fun i _ => xor_fm _ _ _ (ha i) (hb i))
theorem lc_mul {a : Nat → Nat} (ha : El a) {c : Nat} (hc : c < 256) (M : Nat → Nat → Nat) (r j : Nat) : lc (fun i => fm c (a i)) M r j = fm c (lc a M r j) := by
 unfold lc
 rw [qd0]
 exact qa4 (fun i _ => qam _ _ _ hc (ha i))
/-- A combination of combinations. -/
theorem lc_lc {x : Nat → Nat} (hx : El x) {A : Nat → Nat → Nat} (hA : El2 A) (M : Nat → Nat → Nat) (s r j : Nat) : lc x (fun i j => lc (A i) M r j) s j = lc (fun t => lc x A s t) M r j := by
 unfold lc
 have h1 : ∀ i, i < s → fm (x i) (xs (fun t => fm (A i t) (M t j)) r) = xs (fun t => fm (fm (x i) (A i t)) (M t j)) r := fun i _ => by
  rw [qd0]
  exact qa4 (fun t _ => (qam _ _ _ (hx i) (hA i t)).symm)
 rw [qa4 h1, qh6]
 exact qa4 (fun t _ => (qfq _ _ _ (fun i _ => qat _ _ (hx i))).symm)
theorem Spn.el {M : Nat → Nat → Nat} {r : Nat} {y : Nat → Nat} (h : Spn M r y) : El y := by
 obtain ⟨a, ha, e⟩ := h
 intro j
 rw [e j]
 exact lc_lt ha M r j
theorem Spn.congr {M : Nat → Nat → Nat} {r : Nat} {y z : Nat → Nat} (h : Spn M r y) (e : ∀ j, z j = y j) : Spn M r z := by
 obtain ⟨a, ha, e'⟩ := h
 exact ⟨a, ha, fun j => by rw [e j, e' j]⟩
theorem Spn.rows {M N : Nat → Nat → Nat} {r : Nat} {y : Nat → Nat} (h : Spn M r y) (e : ∀ i j, i < r → M i j = N i j) : Spn N r y := by
 obtain ⟨a, ha, e'⟩ := h
 exact ⟨a, ha, fun j => by rw [e' j]; exact qb2 (fun _ _ => rfl) (fun i hi => e i j hi)⟩
theorem qab {M : Nat → Nat → Nat} (hM : El2 M) {r k : Nat} (hk : k < r) : Spn M r (M k) := ⟨dl k, qh7 k, fun j => (lc_dl hM hk j).symm⟩
theorem qd1 (M : Nat → Nat → Nat) (r : Nat) : Spn M r (fun _ => 0) := ⟨fun _ => 0, fun _ => Nat.zero_lt_succ 255, fun j => (qh8 M r j (fun _ _ => rfl)).symm⟩
theorem qcs {M : Nat → Nat → Nat} {r : Nat} {y z : Nat → Nat} (hy : Spn M r y) (hz : Spn M r z) : Spn M r (fun j => y j ^^^ z j) := by
 obtain ⟨a, ha, ea⟩ := hy
 obtain ⟨b, hb, eb⟩ := hz
 exact ⟨fun i => a i ^^^ b i, fun i => qbd _ _ (ha i) (hb i), fun j => by rw [qf6 ha hb, ← ea j, ← eb j]⟩
theorem qb4 {M : Nat → Nat → Nat} {r c : Nat} (hc : c < 256) {y : Nat → Nat} (hy : Spn M r y) : Spn M r (fun j => fm c (y j)) := by
 obtain ⟨a, ha, ea⟩ := hy
 exact ⟨fun i => fm c (a i), fun i => qat _ _ hc, fun j => by rw [lc_mul ha hc, ← ea j]⟩
theorem spn_lc {M N : Nat → Nat → Nat} {r s : Nat} (h : Le N s M r) {x : Nat → Nat} (hx : El x) : Spn M r (lc x N s) := by
 induction s with
 | zero => exact (qd1 M r).congr (fun j => rfl)
 | succ s ih => exact (qcs (ih (fun i hi => h i (by omega))) (qb4 (hx s) (h s (by omega)))).congr (fun j => rfl)
theorem Spn.trans {M N : Nat → Nat → Nat} {r s : Nat} {y : Nat → Nat} (hy : Spn N s y) (h : Le N s M r) : Spn M r y := by
 obtain ⟨x, hx, e⟩ := hy
 exact (spn_lc h hx).congr e
theorem Le.refl {M : Nat → Nat → Nat} (hM : El2 M) (r : Nat) : Le M r M r := fun _ hi => qab hM hi
theorem Le.trans {M N L : Nat → Nat → Nat} {r s t : Nat} (h : Le L t N s) (h2 : Le N s M r) : Le L t M r := fun i hi => (h i hi).trans h2
theorem Le.more {M : Nat → Nat → Nat} (hM : El2 M) {r s : Nat} (h : r ≤ s) : Le M r M s := fun _ hi => qab hM (by omega)
/-- Of a sum one place is taken out. -/
def sk (k i : Nat) : Nat := if i < k then i else i + 1
theorem xs_skip (f : Nat → Nat) (k : Nat) : ∀ s, k ≤ s → xs f (s + 1) = f k ^^^ xs (fun i => f (sk k i)) s := by
 intro s
 induction s with
 | zero =>
  intro h
  obtain rfl : k = 0 := by omega
  simp [xs]
 | succ s ih =>
  intro h
  by_cases e : k = s + 1
  ·subst e
   show xs f (s + 1) ^^^ f (s + 1) = _
   rw [Nat.xor_comm]
   congr 1
   exact qa4 (fun i hi => by unfold sk; rw [if_pos hi])
  ·have hk : k ≤ s := by omega
   show xs f (s + 1) ^^^ f (s + 1) = f k ^^^ (xs (fun i => f (sk k i)) s ^^^ f (sk k s))
   rw [ih hk, Nat.xor_assoc]
   congr 3
   unfold sk
   rw [if_neg (by omega)]
/-- x with X at place k, and behind it one further. -/
def ins (k X : Nat) (x : Nat → Nat) (i : Nat) : Nat := if i < k then x i else if i = k then X else x (i - 1)
theorem ins_at (k X : Nat) (x : Nat → Nat) : ins k X x k = X := by unfold ins; rw [if_neg (by omega), if_pos rfl]
theorem ins_sk (k X : Nat) (x : Nat → Nat) (i : Nat) : ins k X x (sk k i) = x i := by
 unfold ins sk
 by_cases h : i < k
 ·rw [if_pos h, if_pos h]
 ·rw [if_neg h, if_neg (by omega), if_neg (by omega), Nat.add_sub_cancel]
theorem ins_el {k X : Nat} {x : Nat → Nat} (hX : X < 256) (hx : El x) : El (ins k X x) := fun i => by unfold ins; split; exact hx _; split; exact hX; exact hx _
theorem qkm (x : Nat → Nat) (A : Nat → Nat → Nat) {k s : Nat} (h : k ≤ s) (j : Nat) : lc x A (s + 1) j = fm (x k) (A k j) ^^^ lc (fun i => x (sk k i)) (fun i => A (sk k i)) s j := xs_skip (fun i => fm (x i) (A i j)) k s h
/-- More rows than columns: some combination that is not nothing is 0 in all columns. -/
theorem homog : ∀ (r s : Nat) (A : Nat → Nat → Nat), El2 A → r < s → ∃ x, El x ∧ (∃ i, i < s ∧ x i ≠ 0) ∧ ∀ t, t < r → lc x A s t = 0 := by
 intro r
 induction r with
 | zero =>
  intro s A hA hs
  exact ⟨dl 0, qh7 0, ⟨0, hs, by rw [qbs]; decide⟩, fun t ht => by omega⟩
 | succ r ih =>
  intro s A hA hs
  by_cases h0 : ∀ i, i < s → A i r = 0
  ·obtain ⟨x, hx, hn, hz⟩ := ih s A hA (by omega)
   refine ⟨x, hx, hn, fun t ht => ?_⟩
   by_cases e : t = r
   ·subst e
    exact qad (fun i hi => by rw [h0 i hi, qa7])
   ·exact hz t (by omega)
  ·obtain ⟨k, hk, hkr⟩ : ∃ k, k < s ∧ A k r ≠ 0 := by
    apply Classical.byContradiction
    intro hno
    exact h0 (fun i hi => Classical.byContradiction fun hne => hno ⟨i, hi, hne⟩)
   obtain ⟨s, rfl⟩ : ∃ s', s = s' + 1 := ⟨s - 1, by omega⟩
   have hv := qae (A k r)
   have hc : ∀ i, fm (A (sk k i) r) (finv (A k r)) < 256 := fun i => qat _ _ (hA _ _)
   obtain ⟨x, hx, ⟨i1, hi1, hn1⟩, hz⟩ := ih s (fun i t => A (sk k i) t ^^^ fm (fm (A (sk k i) r) (finv (A k r))) (A k t)) (fun i t => qbd _ _ (hA _ _) (qat _ _ (hc i))) (by omega)
   have hX : xs (fun i => fm (x i) (fm (A (sk k i) r) (finv (A k r)))) s < 256 := qh5 (fun i _ => qat _ _ (hx i))
   -- what the sum comes to in any column
   have key : ∀ t, lc (ins k (xs (fun i => fm (x i) (fm (A (sk k i) r) (finv (A k r)))) s) x) A (s + 1) t = lc x (fun i t => A (sk k i) t ^^^ fm (fm (A (sk k i) r) (finv (A k r))) (A k t)) s t := by
    intro t
    rw [qkm (k := k) _ _ (by omega), ins_at]
    have e1 : lc (fun i => ins k (xs (fun i => fm (x i) (fm (A (sk k i) r) (finv (A k r)))) s) x (sk k i)) (fun i => A (sk k i)) s t = xs (fun i => fm (x i) (A (sk k i) t)) s := qa4 (fun i _ => by dsimp only; rw [ins_sk])
    rw [e1, qfq _ _ _ (fun i _ => qat _ _ (hx i)), ← qgk]
    unfold lc
    exact qa4 (fun i _ => by rw [qf3, Nat.xor_comm, qam _ _ _ (hx i) (hc i)])
   refine ⟨ins k (xs (fun i => fm (x i) (fm (A (sk k i) r) (finv (A k r)))) s) x, ins_el hX hx, ⟨sk k i1, by unfold sk; split <;> omega, by rw [ins_sk]; exact hn1⟩, fun t ht => ?_⟩
   rw [key t]
   by_cases e : t = r
   ·subst e
    exact qad (fun i _ => by
     show fm (x i) (A (sk k i) t ^^^ fm (fm (A (sk k i) t) (finv (A k t))) (A k t)) = 0
     rw [qam _ _ _ (hA _ _) hv, qac (finv _) _ hv (hA _ _), qau _ (hA _ _) hkr, qb6 _ (hA _ _), Nat.xor_self, qa7])
   ·exact hz t (by omega)
/-- There are no more independent rows than rows of which they are combinations. -/
theorem steinitz {M N : Nat → Nat → Nat} {r s : Nat} (hN : Ind N s) (h : Le N s M r) : s ≤ r := by
 apply Classical.byContradiction
 intro hlt
 have hch : ∀ i, ∃ a, El a ∧ (i < s → ∀ j, N i j = lc a M r j) := fun i => by
  by_cases hi : i < s
  ·obtain ⟨a, ha, e⟩ := h i hi
   exact ⟨a, ha, fun _ => e⟩
  ·exact ⟨fun _ => 0, fun _ => Nat.zero_lt_succ 255, fun h => absurd h hi⟩
 obtain ⟨A, hA⟩ := Classical.axiomOfChoice hch
 have hA2 : El2 A := fun i j => (hA i).1 j
 obtain ⟨x, hx, ⟨i, hi, hne⟩, hz⟩ := homog r s A hA2 (by omega)
 refine hne (hN x hx (fun j => ?_) i hi)
 have e1 : lc x N s j = lc x (fun i j => lc (A i) M r j) s j := qb2 (fun _ _ => rfl) (fun i hi => (hA i).2 hi j)
 rw [e1, lc_lc hx hA2]
 exact qh8 M r j hz
theorem qe9 {a b : Nat} (h : a ^^^ b = 0) : a = b := by
 have := congrArg (· ^^^ b) h
 simpa [Nat.xor_assoc] using this
/-- The first r rows of M are reduced, with k pivots in the columns p 0 < p 1 < .. -/
structure Rdf (M : Nat → Nat → Nat) (r k : Nat) (p : Nat → Nat) : Prop where
 kr : k ≤ r
 up : ∀ i t, i < t → t < k → p i < p t
 one : ∀ i, i < k → M i (p i) = 1
 off : ∀ i t, i < k → t < r → t ≠ i → M t (p i) = 0
 low : ∀ i j, i < k → j < p i → M i j = 0
 nul : ∀ i j, k ≤ i → i < r → M i j = 0
theorem Rdf.short {M : Nat → Nat → Nat} {r k : Nat} {p : Nat → Nat} (R : Rdf M r k p) (a : Nat → Nat) (j : Nat) : lc a M r j = lc a M k j :=
 qkl R.kr (fun i h1 h2 => by rw [R.nul i j h1 h2, qa7])
theorem Rdf.coord {M : Nat → Nat → Nat} {r k : Nat} {p : Nat → Nat} (R : Rdf M r k p) {a : Nat → Nat} (ha : El a) {t : Nat} (ht : t < k) : lc a M k (p t) = a t := by
 unfold lc
 have := R.kr
 rw [qbe ht (fun i hi hne => by rw [R.off t i ht (by omega) hne, qa7]), R.one t ht, qb6 _ (ha t)]
theorem Rdf.put {M : Nat → Nat → Nat} {r k : Nat} {p : Nat → Nat} (R : Rdf M r k p) {y : Nat → Nat} (hy : Spn M r y) (j : Nat) : y j = lc (fun t => y (p t)) M k j := by
 obtain ⟨a, ha, e⟩ := hy
 rw [e j, R.short]
 refine qb2 (fun t ht => ?_) (fun _ _ => rfl)
 rw [e (p t), R.short, R.coord ha ht]
theorem Rdf.ind {M : Nat → Nat → Nat} {r k : Nat} {p : Nat → Nat} (R : Rdf M r k p) : Ind M k := fun a ha h i hi => by
 rw [← R.coord ha hi]
 exact h (p i)
/-- The first entry of a combination that is not nothing stands in a pivot's column. -/
theorem Rdf.lead {M : Nat → Nat → Nat} {r k : Nat} {p : Nat → Nat} (R : Rdf M r k p) {y : Nat → Nat} (hy : Spn M r y) {j : Nat} (hj : y j ≠ 0) : ∃ t, t < k ∧ y (p t) ≠ 0 ∧ ∀ j, j < p t → y j = 0 := by
 have hex : ∃ t, t < k ∧ y (p t) ≠ 0 := by
  apply Classical.byContradiction
  intro hno
  apply hj
  rw [R.put hy j]
  exact qh8 M k j (fun t ht => Classical.byContradiction fun hne => hno ⟨t, ht, hne⟩)
 -- the least such t
 have hmin : ∀ n, (∃ t, t < n ∧ t < k ∧ y (p t) ≠ 0) → ∃ t, t < k ∧ y (p t) ≠ 0 ∧ ∀ s, s < t → y (p s) = 0 := by
  intro n
  induction n with
  | zero => rintro ⟨t, ht, _⟩; omega
  | succ n ih =>
   rintro ⟨t, ht, htk, hty⟩
   by_cases h : ∃ s, s < n ∧ s < k ∧ y (p s) ≠ 0
   ·exact ih h
   ·refine ⟨t, htk, hty, fun s hs => Classical.byContradiction fun hne => h ⟨s, by omega, by omega, hne⟩⟩
 obtain ⟨t0, h0⟩ := hex
 obtain ⟨t, ht, hty, hl⟩ := hmin k ⟨t0, h0.1, h0.1, h0.2⟩
 refine ⟨t, ht, hty, fun j hj => ?_⟩
 rw [R.put hy j]
 refine qad (fun i hi => ?_)
 by_cases h : i < t
 ·show fm (y (p i)) _ = 0
  rw [hl i h, qaa]
 ·have : p t ≤ p i := by
   rcases Nat.eq_or_lt_of_le (Nat.le_of_not_lt h) with e | e
   ·rw [e]; exact Nat.le_refl _
   ·exact Nat.le_of_lt (R.up t i e hi)
  rw [R.low i j hi (by omega), qa7]
/-- Two rising lists with the same members are the same. -/
theorem qfs {k l : Nat} {p q : Nat → Nat} (hp : ∀ i t, i < t → t < k → p i < p t) (hq : ∀ i t, i < t → t < l → q i < q t) (h1 : ∀ i, i < k → ∃ t, t < l ∧ p i = q t) (h2 : ∀ i, i < l → ∃ t, t < k ∧ q i = p t) : k = l ∧ ∀ i, i < k → p i = q i := by
 have key : ∀ (k l : Nat) (p q : Nat → Nat), (∀ i t, i < t → t < k → p i < p t) → (∀ i t, i < t → t < l → q i < q t) → (∀ i, i < k → ∃ t, t < l ∧ p i = q t) → (∀ i, i < l → ∃ t, t < k ∧ q i = p t) → ∀ i, i < k → i < l ∧ p i = q i := by
  intro k l p q hp hq h1 h2 i
  induction i using Nat.strongRecOn with
  | _ i ih =>
   intro hi
   obtain ⟨t, ht, et⟩ := h1 i hi
   have hti : i ≤ t := by
    apply Classical.byContradiction
    intro hlt
    have := (ih t (by omega) (by omega)).2
    have := hp t i (by omega) hi
    omega
   refine ⟨by omega, ?_⟩
   obtain ⟨s, hs, es⟩ := h2 i (by omega)
   have hsi : i ≤ s := by
    apply Classical.byContradiction
    intro hlt
    have := (ih s (by omega) (by omega)).2
    have := hq s i (by omega) (by omega)
    omega
   have a1 : p i ≤ p s := by
    rcases Nat.eq_or_lt_of_le hsi with e | e
    ·rw [e]; exact Nat.le_refl _
    ·exact Nat.le_of_lt (hp i s e hs)
   have a2 : q i ≤ q t := by
    rcases Nat.eq_or_lt_of_le hti with e | e
    ·rw [e]; exact Nat.le_refl _
    ·exact Nat.le_of_lt (hq i t e ht)
   omega
 have A := key k l p q hp hq h1 h2
 have B := key l k q p hq hp h2 h1
 refine ⟨?_, fun i hi => (A i hi).2⟩
 have : ¬ k < l := fun h => by have := (B k h).1; omega
 have : ¬ l < k := fun h => by have := (A l h).1; omega
 omega
theorem Rdf.in_pivots {M N : Nat → Nat → Nat} {r s k l : Nat} {p q : Nat → Nat} (RM : Rdf M r k p) (RN : Rdf N s l q) (h : Le M r N s) (i : Nat) (hi : i < k) : ∃ t, t < l ∧ p i = q t := by
 have := RM.kr
 obtain ⟨t, ht, hne, hl⟩ := RN.lead (h i (by omega)) (j := p i) (by rw [RM.one i hi]; decide)
 refine ⟨t, ht, ?_⟩
 have h1 : ¬ q t < p i := fun hlt => hne (RM.low i _ hi hlt)
 have h2 : ¬ p i < q t := fun hlt => by have := hl _ hlt; rw [RM.one i hi] at this; cases this
 omega
/-- Two reduced matrices with the same combinations are the same. -/
theorem Rdf.unique {M N : Nat → Nat → Nat} {r s k l : Nat} {p q : Nat → Nat} (RM : Rdf M r k p) (RN : Rdf N s l q) (h1 : Le M r N s) (h2 : Le N s M r) : k = l ∧ (∀ i, i < k → p i = q i) ∧ ∀ i j, i < r → i < s → M i j = N i j := by
 obtain ⟨rfl, e⟩ := qfs RM.up RN.up (RM.in_pivots RN h1) (RN.in_pivots RM h2)
 refine ⟨rfl, e, fun i j hr hs => ?_⟩
 by_cases hi : i < k
 ·rw [RM.put (h2 i hs) j] at *
  have hM : El (M i) := (h1 i hr).el
  unfold lc
  have hk := RN.kr
  rw [qbe hi (fun t ht hne => by show fm (N i (p t)) _ = 0; rw [e t ht, RN.off t i ht (by omega) (Ne.symm hne), qaa])]
  show _ = fm (N i (p i)) _
  rw [e i hi, RN.one i hi, qaz _ (hM j)]
 ·rw [RM.nul i j (by omega) hr, RN.nul i j (by omega) hs]
/-- Same combinations. -/
def SpEq (M : Nat → Nat → Nat) (r : Nat) (N : Nat → Nat → Nat) (s : Nat) : Prop := Le M r N s ∧ Le N s M r
theorem SpEq.refl {M : Nat → Nat → Nat} (hM : El2 M) (r : Nat) : SpEq M r M r := ⟨Le.refl hM r, Le.refl hM r⟩
theorem SpEq.symm {M N : Nat → Nat → Nat} {r s : Nat} (h : SpEq M r N s) : SpEq N s M r := ⟨h.2, h.1⟩
theorem SpEq.trans {M N L : Nat → Nat → Nat} {r s t : Nat} (h : SpEq M r N s) (h2 : SpEq N s L t) : SpEq M r L t := ⟨h.1.trans h2.1, h2.2.trans h.2⟩
/-- The rank: so many independent rows have the same combinations. -/
def Rk (M : Nat → Nat → Nat) (r k : Nat) : Prop := ∃ N, El2 N ∧ Ind N k ∧ SpEq N k M r
theorem Rk.mono {M N : Nat → Nat → Nat} {r s k l : Nat} (hM : Rk M r k) (hN : Rk N s l) (h : Le N s M r) : l ≤ k := by
 obtain ⟨B, _, _, hB⟩ := hM
 obtain ⟨C, _, hC, hC2⟩ := hN
 exact steinitz hC (hC2.1.trans (h.trans hB.2))
theorem Rk.unique {M N : Nat → Nat → Nat} {r s k l : Nat} (hM : Rk M r k) (hN : Rk N s l) (h : SpEq M r N s) : k = l := Nat.le_antisymm (hN.mono hM h.1) (hM.mono hN h.2)
theorem Rk.le {M : Nat → Nat → Nat} {r k s : Nat} {N : Nat → Nat → Nat} (hM : Rk M r k) (h : Le M r N s) : k ≤ s := by
 obtain ⟨B, _, hI, hB⟩ := hM
 exact steinitz hI (hB.1.trans h)
theorem Rk.rows {M : Nat → Nat → Nat} {r k : Nat} (hE : El2 M) (hM : Rk M r k) : k ≤ r := hM.le (Le.refl hE r)
theorem Rk.span {M N : Nat → Nat → Nat} {r s k : Nat} (hM : Rk M r k) (h : SpEq M r N s) : Rk N s k := by
 obtain ⟨B, hE, hI, hB⟩ := hM
 exact ⟨B, hE, hI, hB.trans h⟩
theorem Rdf.rk {M : Nat → Nat → Nat} (hM : El2 M) {r k : Nat} {p : Nat → Nat} (R : Rdf M r k p) : Rk M r k :=
 ⟨M, hM, R.ind, Le.more hM R.kr, fun i hi => by
  by_cases h : i < k
  ·exact qab hM h
  ·exact (qd1 M k).congr (fun j => R.nul i j (by omega) hi)⟩
/-- The rank with one row more. -/
theorem Rk.same {M : Nat → Nat → Nat} (hM : El2 M) {r k : Nat} (h : Rk M r k) (hs : Spn M r (M r)) : Rk M (r + 1) k := h.span ⟨Le.more hM (by omega), fun i hi => by
 by_cases e : i = r
 ·subst e; exact hs
 ·exact qab hM (by omega)⟩
theorem Rk.more {M : Nat → Nat → Nat} (hM : El2 M) {r k : Nat} (h : Rk M r k) (hs : ¬ Spn M r (M r)) : Rk M (r + 1) (k + 1) := by
 obtain ⟨B, hE, hI, hB⟩ := h
 have e0 : ∀ (a : Nat → Nat) (j : Nat), lc a (fun i => if i = k then M r else B i) (k + 1) j = lc a B k j ^^^ fm (a k) (M r j) := by
  intro a j
  show xs (fun i => fm (a i) ((if i = k then M r else B i) j)) k ^^^ fm (a k) ((if k = k then M r else B k) j) = _
  rw [if_pos rfl]
  congr 1
  exact qa4 (fun i hi => by rw [if_neg (by omega)])
 have hE' : El2 (fun i => if i = k then M r else B i) := fun i j => by
  show (if i = k then M r else B i) j < 256
  split
  ·exact hM r j
  ·exact hE i j
 refine ⟨fun i => if i = k then M r else B i, hE', ?_, ?_, ?_⟩
 ·intro a ha hz i hi
  have hk : a k = 0 := Classical.byContradiction fun hne => hs (by
   have hv := qae (a k)
   have : Spn B k (fun j => fm (finv (a k)) (lc a B k j)) := qb4 hv ⟨a, ha, fun _ => rfl⟩
   refine (this.trans hB.1).congr (fun j => ?_)
   have e : lc a B k j = fm (a k) (M r j) := by
    have := hz j
    rw [e0] at this
    exact qe9 this
   rw [e, ← qam _ _ _ hv (ha k), qac _ _ hv (ha k), qau _ (ha k) hne, qaz _ (hM r j)])
  by_cases e : i = k
  ·rw [e]; exact hk
  ·refine hI a ha (fun j => ?_) i (by omega)
   have := hz j
   rw [e0, hk, qaa, Nat.xor_zero] at this
   exact this
 ·intro i hi
  show Spn M (r + 1) (if i = k then M r else B i)
  split
  ·exact qab hM (by omega)
  ·exact (hB.1 i (by omega)).trans (Le.more hM (by omega))
 ·have hle : Le B k (fun i => if i = k then M r else B i) (k + 1) := fun i hi => by
   have := qab hE' (r := k + 1) (k := i) (by omega)
   exact this.congr (fun j => by show B i j = (if i = k then M r else B i) j; rw [if_neg (by omega)])
  intro i hi
  by_cases e : i = r
  ·subst e
   have := qab hE' (r := k + 1) (k := k) (by omega)
   exact this.congr (fun j => by show M i j = (if k = k then M i else B k) j; rw [if_pos rfl])
  ·exact (hB.2 i (by omega)).trans hle
theorem Rk.zero (M : Nat → Nat → Nat) : Rk M 0 0 := ⟨fun _ _ => 0, fun _ _ => Nat.zero_lt_succ 255, fun _ _ _ i hi => by omega, fun i hi => by omega, fun i hi => by omega⟩
theorem rk_ex {M : Nat → Nat → Nat} (hM : El2 M) (r : Nat) : ∃ k, Rk M r k := by
 induction r with
 | zero => exact ⟨0, Rk.zero M⟩
 | succ r ih =>
  obtain ⟨k, hk⟩ := ih
  by_cases h : Spn M r (M r)
  ·exact ⟨k, hk.same hM h⟩
  ·exact ⟨k + 1, hk.more hM h⟩
/-- Row t is another one. -/
def rw1 (M : Nat → Nat → Nat) (t : Nat) (v : Nat → Nat) (i j : Nat) : Nat := if i = t then v j else M i j
theorem qgl (M : Nat → Nat → Nat) (t : Nat) (v : Nat → Nat) (j : Nat) : rw1 M t v t j = v j := if_pos rfl
theorem qhy (M : Nat → Nat → Nat) {t i : Nat} (v : Nat → Nat) (j : Nat) (h : i ≠ t) : rw1 M t v i j = M i j := if_neg h
theorem qkn {M : Nat → Nat → Nat} (hM : El2 M) {v : Nat → Nat} (hv : El v) (t : Nat) : El2 (rw1 M t v) := fun i j => by unfold rw1; split; exact hv j; exact hM i j
/-- Two rows change places. -/
def swp (M : Nat → Nat → Nat) (a b i j : Nat) : Nat := if i = a then M b j else if i = b then M a j else M i j
theorem qko {M : Nat → Nat → Nat} (hM : El2 M) (a b : Nat) : El2 (swp M a b) := fun i j => by unfold swp; split; exact hM _ _; split; exact hM _ _; exact hM _ _
theorem swp_swp (M : Nat → Nat → Nat) (a b i j : Nat) : swp (swp M a b) a b i j = M i j := by
 unfold swp
 by_cases h1 : i = a
 ·subst h1
  rw [if_pos rfl]
  by_cases h2 : b = i
  ·rw [if_pos h2, h2]
  ·rw [if_neg h2, if_pos rfl]
 ·rw [if_neg h1]
  by_cases h2 : i = b
  ·subst h2
   rw [if_pos rfl, if_pos rfl]
  ·rw [if_neg h2, if_neg h1, if_neg h2]
theorem swp_le {M : Nat → Nat → Nat} (hM : El2 M) {r a b : Nat} (ha : a < r) (hb : b < r) : Le (swp M a b) r M r := fun i hi => by
 by_cases h1 : i = a
 ·exact (qab hM hb).congr (fun j => by unfold swp; rw [if_pos h1])
 ·by_cases h2 : i = b
  ·exact (qab hM ha).congr (fun j => by unfold swp; rw [if_neg h1, if_pos h2])
  ·exact (qab hM hi).congr (fun j => by unfold swp; rw [if_neg h1, if_neg h2])
theorem Le.rows {M N L : Nat → Nat → Nat} {s r : Nat} (h : Le N s M r) (e : ∀ i j, i < s → L i j = N i j) : Le L s M r := fun i hi => (h i hi).congr (fun j => e i j hi)
theorem Le.rows2 {M N L : Nat → Nat → Nat} {s r : Nat} (h : Le N s M r) (e : ∀ i j, i < r → M i j = L i j) : Le N s L r := fun i hi => (h i hi).rows e
theorem SpEq.rows {M N L : Nat → Nat → Nat} {s r : Nat} (h : SpEq N s M r) (e : ∀ i j, i < s → L i j = N i j) : SpEq L s M r := ⟨h.1.rows e, h.2.rows2 (fun i j hi => (e i j hi).symm)⟩
theorem qhz {M : Nat → Nat → Nat} (hM : El2 M) {r a b : Nat} (ha : a < r) (hb : b < r) : SpEq (swp M a b) r M r :=
 ⟨swp_le hM ha hb, (swp_le (qko hM a b) ha hb).rows (fun i j _ => (swp_swp M a b i j).symm)⟩
/-- A row is multiplied by what is not 0. -/
theorem qdf {M : Nat → Nat → Nat} (hM : El2 M) {r t c : Nat} (_ht : t < r) (hc : c < 256) (h0 : c ≠ 0) : SpEq (rw1 M t (fun j => fm c (M t j))) r M r := by
 have hE : El2 (rw1 M t (fun j => fm c (M t j))) := qkn hM (fun j => qat _ _ hc) t
 refine ⟨fun i hi => ?_, fun i hi => ?_⟩
 ·by_cases e : i = t
  ·subst e
   exact (qb4 hc (qab hM hi)).congr (fun j => qgl _ _ _ j)
  ·exact (qab hM hi).congr (fun j => qhy _ _ j e)
 ·by_cases e : i = t
  ·subst e
   refine (qb4 (qae c) (qab hE hi)).congr (fun j => ?_)
   rw [qgl, ← qam _ _ _ (qae c) hc, qac _ _ (qae c) hc, qau _ hc h0, qaz _ (hM i j)]
  ·exact (qab hE hi).congr (fun j => (qhy _ _ j e).symm)
/-- All rows but row t: so much of row t is taken off that column j is 0. -/
def clr (M : Nat → Nat → Nat) (t j i l : Nat) : Nat := if i = t then M t l else M i l ^^^ fm (M i j) (M t l)
theorem clr_el {M : Nat → Nat → Nat} (hM : El2 M) (t j : Nat) : El2 (clr M t j) := fun i l => by unfold clr; split; exact hM _ _; exact qbd _ _ (hM _ _) (qat _ _ (hM _ _))
theorem spEq_clr {M : Nat → Nat → Nat} (hM : El2 M) {r t : Nat} (ht : t < r) (j : Nat) : SpEq (clr M t j) r M r := by
 have hE := clr_el hM t j
 have et : ∀ l, clr M t j t l = M t l := fun l => if_pos rfl
 refine ⟨fun i hi => ?_, fun i hi => ?_⟩
 ·by_cases e : i = t
  ·subst e
   exact (qab hM hi).congr et
  ·exact (qcs (qab hM hi) (qb4 (hM i j) (qab hM ht))).congr (fun l => if_neg e)
 ·by_cases e : i = t
  ·subst e
   exact (qab hE hi).congr (fun l => (et l).symm)
  ·refine (qcs (qab hE hi) (qb4 (hM i j) (qab hE ht))).congr (fun l => ?_)
   rw [et l]
   show M i l = (if i = t then M t l else M i l ^^^ fm (M i j) (M t l)) ^^^ _
   rw [if_neg e, Nat.xor_assoc, Nat.xor_self, Nat.xor_zero]
/-- The first columns, below j, are reduced: top pivots so far. -/
structure Elm (M : Nat → Nat → Nat) (r top j : Nat) (p : Nat → Nat) : Prop where
 tr : top ≤ r
 up : ∀ i t, i < t → t < top → p i < p t
 lt : ∀ i, i < top → p i < j
 one : ∀ i, i < top → M i (p i) = 1
 off : ∀ i t, i < top → t < r → t ≠ i → M t (p i) = 0
 low : ∀ i l, i < top → l < p i → M i l = 0
 nul : ∀ i l, top ≤ i → i < r → l < j → M i l = 0
theorem elm_zero (M : Nat → Nat → Nat) (r : Nat) (p : Nat → Nat) : Elm M r 0 0 p := ⟨by omega, fun _ _ _ h => by omega, fun _ h => by omega, fun _ h => by omega, fun _ _ h => by omega, fun _ _ h => by omega, fun _ _ _ _ h => by omega⟩
theorem Elm.rows {M N : Nat → Nat → Nat} {r top j : Nat} {p : Nat → Nat} (h : Elm M r top j p) (e : ∀ i l, i < r → N i l = M i l) : Elm N r top j p := by
 have := h.tr
 exact ⟨h.tr, h.up, h.lt, fun i hi => by rw [e _ _ (by omega)]; exact h.one i hi, fun i t hi ht hne => by rw [e _ _ ht]; exact h.off i t hi ht hne, fun i l hi hl => by rw [e _ _ (by omega)]; exact h.low i l hi hl, fun i l hi hr hl => by rw [e _ _ hr]; exact h.nul i l hi hr hl⟩
theorem Elm.seq {M : Nat → Nat → Nat} {r top j : Nat} {p q : Nat → Nat} (h : Elm M r top j p) (e : ∀ i, i < top → q i = p i) : Elm M r top j q :=
 ⟨h.tr, fun i t hi ht => by rw [e i (by omega), e t ht]; exact h.up i t hi ht, fun i hi => by rw [e i hi]; exact h.lt i hi, fun i hi => by rw [e i hi]; exact h.one i hi, fun i t hi ht hne => by rw [e i hi]; exact h.off i t hi ht hne, fun i l hi hl => by rw [e i hi] at hl; exact h.low i l hi hl, h.nul⟩
theorem Elm.skip {M : Nat → Nat → Nat} {r top j : Nat} {p : Nat → Nat} (h : Elm M r top j p) (h0 : ∀ i, top ≤ i → i < r → M i j = 0) : Elm M r top (j + 1) p :=
 ⟨h.tr, h.up, fun i hi => by have := h.lt i hi; omega, h.one, h.off, h.low, fun i l hi hr hl => by
  by_cases e : l = j
  ·subst e; exact h0 i hi hr
  ·exact h.nul i l hi hr (by omega)⟩
/-- Two rows below the pivots may change places. -/
theorem Elm.swp {M : Nat → Nat → Nat} {r top j a b : Nat} {p : Nat → Nat} (h : Elm M r top j p) (ha : top ≤ a) (hb : top ≤ b) (har : a < r) (hbr : b < r) : Elm (swp M a b) r top j p := by
 have up : ∀ i l, i < top → Go.Proofs.YtblagbghpfopcaaGreat.swp M a b i l = M i l := fun i l hi => by unfold Go.Proofs.YtblagbghpfopcaaGreat.swp; rw [if_neg (by omega), if_neg (by omega)]
 refine ⟨h.tr, h.up, h.lt, fun i hi => by rw [up _ _ hi]; exact h.one i hi, fun i t hi ht hne => ?_, fun i l hi hl => by rw [up _ _ hi]; exact h.low i l hi hl, fun i l hi hr hl => ?_⟩
 ·unfold Go.Proofs.YtblagbghpfopcaaGreat.swp
  split
  ·exact h.off i b hi hbr (by omega)
  ·split
   ·exact h.off i a hi har (by omega)
   ·exact h.off i t hi ht hne
 ·unfold Go.Proofs.YtblagbghpfopcaaGreat.swp
  split
  ·exact h.nul b l hb hbr hl
  ·split
   ·exact h.nul a l ha har hl
   ·exact h.nul i l hi hr hl
/-- A row below the pivots may be multiplied. -/
theorem Elm.scale {M : Nat → Nat → Nat} {r top j a c : Nat} {p : Nat → Nat} (h : Elm M r top j p) (ha : top ≤ a) (har : a < r) : Elm (rw1 M a (fun l => fm c (M a l))) r top j p := by
 have up : ∀ i l, i < top → rw1 M a (fun l => fm c (M a l)) i l = M i l := fun i l hi => qhy _ _ _ (by omega)
 refine ⟨h.tr, h.up, h.lt, fun i hi => by rw [up _ _ hi]; exact h.one i hi, fun i t hi ht hne => ?_, fun i l hi hl => by rw [up _ _ hi]; exact h.low i l hi hl, fun i l hi hr hl => ?_⟩
 ·unfold rw1
  split
  ·show fm c (M a (p i)) = 0
   rw [h.off i a hi har (by omega), qa7]
  ·exact h.off i t hi ht hne
 ·unfold rw1
  split
  ·show fm c (M a l) = 0
   rw [h.nul a l ha har hl, qa7]
  ·exact h.nul i l hi hr hl
/-- One pivot more. -/
theorem Elm.step {M : Nat → Nat → Nat} (hM : El2 M) {r top j : Nat} {p : Nat → Nat} (h : Elm M r top j p) (ht : top < r) (h1 : M top j = 1) : Elm (clr M top j) r (top + 1) (j + 1) (fun i => if i = top then j else p i) := by
 have et : ∀ l, clr M top j top l = M top l := fun l => if_pos rfl
 have en : ∀ i l, i ≠ top → clr M top j i l = M i l ^^^ fm (M i j) (M top l) := fun i l hi => if_neg hi
 -- left of column j the row of the pivot is 0
 have hl : ∀ l, l < j → M top l = 0 := fun l hl => h.nul top l (Nat.le_refl _) ht hl
 have same : ∀ i l, l < j → clr M top j i l = M i l := fun i l hlj => by
  by_cases e : i = top
  ·rw [e, et]
  ·rw [en _ _ e, hl l hlj, qa7, Nat.xor_zero]
 have hpj : ∀ i, i < top → p i < j := h.lt
 refine ⟨by omega, fun i t hi ht' => ?_, fun i hi => ?_, fun i hi => ?_, fun i t hi htr hne => ?_, fun i l hi hlp => ?_, fun i l hi hr hlj => ?_⟩
 ·show (if i = top then j else p i) < (if t = top then j else p t)
  rw [if_neg (by omega)]
  split
  ·exact hpj i (by omega)
  ·exact h.up i t hi (by omega)
 ·show (if i = top then j else p i) < j + 1
  split
  ·omega
  ·have := hpj i (by omega); omega
 ·show clr M top j i (if i = top then j else p i) = 1
  by_cases e : i = top
  ·rw [if_pos e, e, et, h1]
  ·rw [if_neg e, same _ _ (hpj i (by omega))]; exact h.one i (by omega)
 ·show clr M top j t (if i = top then j else p i) = 0
  by_cases e : i = top
  ·rw [if_pos e, en _ _ (by omega), h1, qb6 _ (hM t j), Nat.xor_self]
  ·rw [if_neg e, same _ _ (hpj i (by omega))]; exact h.off i t (by omega) htr hne
 ·have hlp : l < (if i = top then j else p i) := hlp
  by_cases e : i = top
  ·rw [if_pos e] at hlp
   rw [e, et]; exact hl l hlp
  ·rw [if_neg e] at hlp
   rw [same _ _ (by have := hpj i (by omega); omega)]; exact h.low i l (by omega) hlp
 ·by_cases e : l = j
  ·subst e
   rw [en _ _ (by omega), h1, qb6 _ (hM i l), Nat.xor_self]
  ·rw [same _ _ (by omega)]; exact h.nul i l (by omega) hr (by omega)
theorem Elm.rdf {M : Nat → Nat → Nat} {r top j : Nat} {p : Nat → Nat} (h : Elm M r top j p) (h0 : top = r ∨ ∀ i l, i < r → j ≤ l → M i l = 0) : Rdf M r top p :=
 ⟨h.tr, h.up, h.one, h.off, h.low, fun i l hi hr => by
  rcases h0 with e | h0
  ·omega
  ·by_cases e : l < j
   ·exact h.nul i l hi hr e
   ·exact h0 i l hr (by omega)⟩
/-- Behind the last column all is 0. -/
def Cut (M : Nat → Nat → Nat) (c : Nat) : Prop := ∀ i j, c ≤ j → M i j = 0
theorem Spn.cut {M : Nat → Nat → Nat} {r c : Nat} {y : Nat → Nat} (h : Spn M r y) (hM : ∀ i j, i < r → c ≤ j → M i j = 0) (j : Nat) (hj : c ≤ j) : y j = 0 := by
 obtain ⟨a, _, e⟩ := h
 rw [e j]
 exact qad (fun i hi => by rw [hM i j hi hj, qa7])
theorem Le.cut {M N : Nat → Nat → Nat} {r s c : Nat} (h : Le N s M r) (hM : ∀ i j, i < r → c ≤ j → M i j = 0) : ∀ i j, i < s → c ≤ j → N i j = 0 := fun i j hi hj => (h i hi).cut hM j hj
theorem Rk.at {M N : Nat → Nat → Nat} {r k : Nat} (h : Rk M r k) (e : ∀ i j, i < r → N i j = M i j) : Rk N r k := by
 obtain ⟨B, hE, hI, hB⟩ := h
 exact ⟨B, hE, hI, hB.1.rows2 (fun i j hi => (e i j hi).symm), hB.2.rows e⟩
/-- The factors of all rows at once. -/
theorem Le.factors {M N : Nat → Nat → Nat} {r s : Nat} (h : Le N s M r) : ∃ A, El2 A ∧ ∀ i, i < s → ∀ j, N i j = lc (A i) M r j := by
 have hch : ∀ i, ∃ a, El a ∧ (i < s → ∀ j, N i j = lc a M r j) := fun i => by
  by_cases hi : i < s
  ·obtain ⟨a, ha, e⟩ := h i hi
   exact ⟨a, ha, fun _ => e⟩
  ·exact ⟨fun _ => 0, fun _ => Nat.zero_lt_succ 255, fun h => absurd h hi⟩
 obtain ⟨A, hA⟩ := Classical.axiomOfChoice hch
 exact ⟨A, fun i j => (hA i).1 j, fun i hi j => (hA i).2 hi j⟩
/-- The product. -/
def pr (A B : Nat → Nat → Nat) (n i j : Nat) : Nat := lc (A i) B n j
/-- Rows that are combinations stay so in the products. -/
theorem Le.pr {A C : Nat → Nat → Nat} {r s : Nat} (h : Le A r C s) (hC : El2 C) (B : Nat → Nat → Nat) (n : Nat) : Le (pr A B n) r (pr C B n) s := fun i hi => by
 obtain ⟨x, hx, e⟩ := h i hi
 refine ⟨x, hx, fun j => ?_⟩
 have e1 : Go.Proofs.YtblagbghpfopcaaGreat.pr A B n i j = lc (fun t => lc x C s t) B n j := qb2 (fun t _ => e t) (fun _ _ => rfl)
 rw [e1]
 exact (lc_lc hx hC B s n j).symm
/-- How many below n, and which. -/
def cnt (P : Nat → Bool) : Nat → Nat
 | 0 => 0
 | n + 1 => cnt P n + if P n then 1 else 0
def nth (P : Nat → Bool) : Nat → Nat → Nat
 | 0, _ => 0
 | n + 1, u => if P n = true ∧ u = cnt P n then n else nth P n u
theorem qea {P : Nat → Bool} {n : Nat} (h : P n = true) : cnt P (n + 1) = cnt P n + 1 := by simp [cnt, h]
theorem qi0 {P : Nat → Bool} {n : Nat} (h : P n = false) : cnt P (n + 1) = cnt P n := by simp [cnt, h]
theorem cnt_mono (P : Nat → Bool) {n m : Nat} (h : n ≤ m) : cnt P n ≤ cnt P m := by
 induction h with
 | refl => exact Nat.le_refl _
 | step _ ih => exact Nat.le_trans ih (Nat.le_add_right _ _)
theorem qbt (P : Nat → Bool) : ∀ n u, u < cnt P n → nth P n u < n ∧ P (nth P n u) = true ∧ cnt P (nth P n u) = u := by
 intro n
 induction n with
 | zero => intro u hu; simp [cnt] at hu
 | succ n ih =>
  intro u hu
  unfold nth
  by_cases h : P n = true ∧ u = cnt P n
  ·rw [if_pos h]
   exact ⟨by omega, h.1, h.2.symm⟩
  ·rw [if_neg h]
   have hu' : u < cnt P n := by
    cases hp : P n with
    | false => rwa [qi0 hp] at hu
    | true =>
     rw [qea hp] at hu
     have : u ≠ cnt P n := fun e => h ⟨hp, e⟩
     omega
   obtain ⟨h1, h2, h3⟩ := ih u hu'
   exact ⟨by omega, h2, h3⟩
theorem cnt_lt {P : Nat → Bool} {j n : Nat} (hj : j < n) (h : P j = true) : cnt P j < cnt P n := by
 have := cnt_mono P (show j + 1 ≤ n from hj)
 rw [qea h] at this
 omega
theorem qh9 {P : Nat → Bool} {j n : Nat} (hj : j < n) (h : P j = true) : nth P n (cnt P j) = j := by
 obtain ⟨h1, h2, h3⟩ := qbt P n (cnt P j) (cnt_lt hj h)
 apply Classical.byContradiction
 intro hne
 rcases Nat.lt_or_ge (nth P n (cnt P j)) j with hlt | hge
 ·have := cnt_lt hlt h2; omega
 ·have := cnt_lt (show j < nth P n (cnt P j) by omega) h; omega
theorem nth_up {P : Nat → Bool} {n u v : Nat} (h : u < v) (hv : v < cnt P n) : nth P n u < nth P n v := by
 obtain ⟨_, _, h3⟩ := qbt P n u (by omega)
 obtain ⟨_, _, g3⟩ := qbt P n v hv
 apply Classical.byContradiction
 intro hge
 have := cnt_mono P (Nat.le_of_not_lt hge)
 omega
theorem qft (P : Nat → Bool) (n : Nat) : cnt P n + cnt (fun j => !P j) n = n := by
 induction n with
 | zero => rfl
 | succ n ih =>
  cases h : P n with
  | false => rw [qi0 h, qea (P := fun j => !P j) (by simp [h])]; omega
  | true => rw [qea h, qi0 (P := fun j => !P j) (by simp [h])]; omega
/-- Column j is a pivot's. -/
def pvt (p : Nat → Nat) (k j : Nat) : Bool := (List.range k).any (fun i => p i == j)
theorem qbu (p : Nat → Nat) (k j : Nat) : pvt p k j = true ↔ ∃ i, i < k ∧ p i = j := by simp [pvt]
theorem pvt_no {p : Nat → Nat} {k j : Nat} (h : pvt p k j = false) {i : Nat} (hi : i < k) : p i ≠ j := fun e => by
 rw [(qbu p k j).2 ⟨i, hi, e⟩] at h
 cases h
theorem cnt_pvt {p : Nat → Nat} {k n : Nat} (up : ∀ i t, i < t → t < k → p i < p t) (hn : ∀ i, i < k → p i < n) : cnt (pvt p k) n = k ∧ ∀ i, i < k → nth (pvt p k) n i = p i := by
 have := qfs (p := p) (q := nth (pvt p k) n) (k := k) (l := cnt (pvt p k) n) up (fun i t hi ht => nth_up hi ht) (fun i hi => by
  have hp : pvt p k (p i) = true := (qbu p k (p i)).2 ⟨i, hi, rfl⟩
  exact ⟨_, cnt_lt (hn i hi) hp, (qh9 (hn i hi) hp).symm⟩) (fun u hu => by
  obtain ⟨_, h2, _⟩ := qbt (pvt p k) n u hu
  obtain ⟨i, hi, e⟩ := (qbu p k _).1 h2
  exact ⟨i, hi, e.symm⟩)
 exact ⟨this.1.symm, fun i hi => (this.2 i hi).symm⟩
theorem qeb {M N : Nat → Nat → Nat} {r s : Nat} {x : Nat → Nat} (hx : El x) (h : ∀ i, i < s → x i ≠ 0 → Spn M r (N i)) : Spn M r (lc x N s) := by
 induction s with
 | zero => exact (qd1 M r).congr (fun j => rfl)
 | succ s ih =>
  have ih := ih (fun i hi => h i (by omega))
  by_cases e : x s = 0
  ·exact ih.congr (fun j => by show xs (fun i => fm (x i) (N i j)) s ^^^ fm (x s) (N s j) = _; rw [e, qaa, Nat.xor_zero]; rfl)
  ·exact (qcs ih (qb4 (hx s) (h s (by omega) e))).congr (fun j => rfl)
/-- What row y is sent to by x: the first c columns count. -/
def dt (y x : Nat → Nat) (c : Nat) : Nat := xs (fun j => fm (y j) (x j)) c
theorem dt_lc {a : Nat → Nat} (ha : El a) {M : Nat → Nat → Nat} (hM : El2 M) (r : Nat) (x : Nat → Nat) (c : Nat) : dt (lc a M r) x c = xs (fun i => fm (a i) (dt (M i) x c)) r := by
 unfold dt lc
 have h1 : ∀ j, j < c → fm (xs (fun i => fm (a i) (M i j)) r) (x j) = xs (fun i => fm (a i) (fm (M i j) (x j))) r := fun j _ => by
  rw [qfq _ _ _ (fun i _ => qat _ _ (ha i))]
  exact qa4 (fun i _ => qam _ _ _ (ha i) (hM i j))
 rw [qa4 h1, qh6]
 exact qa4 (fun i _ => (qd0 _ _ _).symm)
theorem dt_congr {y z x : Nat → Nat} {c : Nat} (h : ∀ j, j < c → y j = z j) : dt y x c = dt z x c := qa4 (fun j hj => by rw [h j hj])
theorem qkp {y x z : Nat → Nat} {c : Nat} (h : ∀ j, j < c → x j = z j) : dt y x c = dt y z c := qa4 (fun j hj => by rw [h j hj])
theorem dt_add (y x z : Nat → Nat) (c : Nat) : dt y (fun j => x j ^^^ z j) c = dt y x c ^^^ dt y z c := by
 unfold dt
 rw [← qgk]
 exact qa4 (fun j _ => qf3 _ _ _)
/-- What all rows send to nothing all their combinations do. -/
theorem qdg {M : Nat → Nat → Nat} (hM : El2 M) {r c : Nat} {x y : Nat → Nat} (hy : Spn M r y) (h : ∀ i, i < r → dt (M i) x c = 0) : dt y x c = 0 := by
 obtain ⟨a, ha, e⟩ := hy
 have : dt y x c = dt (lc a M r) x c := dt_congr (fun j _ => e j)
 rw [this, dt_lc ha hM]
 exact qad (fun i hi => by rw [h i hi, qa7])
/-- The matrix with a further column, in place c. -/
def aug (M : Nat → Nat → Nat) (c : Nat) (b : Nat → Nat) (i j : Nat) : Nat := if j = c then b i else M i j
theorem aug_el {M : Nat → Nat → Nat} (hM : El2 M) (c : Nat) {b : Nat → Nat} (hb : El b) : El2 (aug M c b) := fun i j => by unfold aug; split; exact hb i; exact hM i j
theorem aug_at (M : Nat → Nat → Nat) (c : Nat) (b : Nat → Nat) (i : Nat) : aug M c b i c = b i := if_pos rfl
theorem aug_lt (M : Nat → Nat → Nat) {c j : Nat} (b : Nat → Nat) (i : Nat) (h : j < c) : aug M c b i j = M i j := if_neg (by omega)
/-- x is sent to b. -/
def Sol (M : Nat → Nat → Nat) (r c : Nat) (b x : Nat → Nat) : Prop := ∀ i, i < r → dt (M i) x c = b i
theorem dt_aug (M : Nat → Nat → Nat) (c : Nat) {b : Nat → Nat} (hb : El b) (x : Nat → Nat) (i : Nat) : dt (aug M c b i) (fun j => if j = c then 1 else x j) (c + 1) = dt (M i) x c ^^^ b i := by
 show xs (fun j => fm (aug M c b i j) (if j = c then 1 else x j)) c ^^^ fm (aug M c b i c) (if c = c then 1 else x c) = _
 rw [aug_at, if_pos rfl, qb6 _ (hb i)]
 congr 1
 exact qa4 (fun j hj => by rw [aug_lt _ _ _ hj, if_neg (by omega)])
theorem qkq {M : Nat → Nat → Nat} {r c : Nat} {b : Nat → Nat} (hb : El b) (x : Nat → Nat) : Sol M r c b x ↔ ∀ i, i < r → dt (aug M c b i) (fun j => if j = c then 1 else x j) (c + 1) = 0 := by
 constructor
 ·intro h i hi
  rw [dt_aug M c hb, h i hi, Nat.xor_self]
 ·intro h i hi
  have := h i hi
  rw [dt_aug M c hb] at this
  exact qe9 this
/-- What is done to rows and to b alike leaves what is sent to b. -/
theorem qi1 {M N : Nat → Nat → Nat} (hM : El2 M) {r s c : Nat} {b d : Nat → Nat} (hb : El b) (hd : El d) (h : Le (aug N c d) s (aug M c b) r) {x : Nat → Nat} (hx : Sol M r c b x) : Sol N s c d x := by
 rw [qkq hd]
 rw [qkq hb] at hx
 exact fun i hi => qdg (aug_el hM c hb) (h i hi) hx
/-- v's numbers at the pivots' columns, else 0. -/
def pp (p : Nat → Nat) (k : Nat) (v : Nat → Nat) (j : Nat) : Nat := xs (fun i => if p i = j then v i else 0) k
theorem pp_at {p : Nat → Nat} {k : Nat} (up : ∀ i t, i < t → t < k → p i < p t) (v : Nat → Nat) {t : Nat} (ht : t < k) : pp p k v (p t) = v t := by
 unfold pp
 rw [qbe ht (fun i hi hne => if_neg (fun e => by
  rcases Nat.lt_or_gt_of_ne hne with h | h
  ·have := up i t h ht; omega
  ·have := up t i h hi; omega)), if_pos rfl]
theorem qha {p : Nat → Nat} {k j : Nat} (v : Nat → Nat) (h : pvt p k j = false) : pp p k v j = 0 := qad (fun _ hi => if_neg (pvt_no h hi))
theorem qkr (p : Nat → Nat) (k : Nat) {v : Nat → Nat} (hv : El v) : El (pp p k v) := fun _ => qh5 (fun i _ => ite_lt _ _ (hv i))
theorem dt_pp {y : Nat → Nat} (_hy : El y) {p : Nat → Nat} {k c : Nat} (hc : ∀ i, i < k → p i < c) (v : Nat → Nat) : dt y (pp p k v) c = xs (fun i => fm (y (p i)) (v i)) k := by
 unfold dt pp
 have h1 : ∀ j, j < c → fm (y j) (xs (fun i => if p i = j then v i else 0) k) = xs (fun i => if p i = j then fm (y j) (v i) else 0) k := fun j _ => by
  rw [qd0]
  exact qa4 (fun i _ => ite_fm _ _ _)
 rw [qa4 h1, qh6]
 refine qa4 (fun i hi => ?_)
 rw [qbe (hc i hi) (fun j _ hne => if_neg (fun e => hne e.symm)), if_pos rfl]
/-- A reduced matrix sends v's numbers, put at the pivots, to v. -/
theorem Rdf.sends {R : Nat → Nat → Nat} (hR : El2 R) {r k c : Nat} {p : Nat → Nat} (h : Rdf R r k p) (hc : ∀ i, i < k → p i < c) {v : Nat → Nat} (hv : El v) (h0 : ∀ i, k ≤ i → i < r → v i = 0) : Sol R r c v (pp p k v) := by
 intro i hi
 rw [dt_pp (hR i) hc]
 by_cases e : i < k
 ·rw [qbe e (fun t ht hne => by rw [h.off t i ht hi (Ne.symm hne), qaa]), h.one i e, qaz _ (hv i)]
 ·rw [h0 i (by omega) hi]
  exact qad (fun t ht => by rw [h.nul i _ (by omega) hi, qaa])
/-- Of what a reduced matrix sends to nothing the pivots' numbers are told by the others. -/
theorem Rdf.zero_at {R : Nat → Nat → Nat} {r k c : Nat} {p : Nat → Nat} (h : Rdf R r k p) (hc : ∀ i, i < k → p i < c) {x : Nat → Nat} (hx : El x) (hf : ∀ j, j < c → pvt p k j = false → x j = 0) (h0 : ∀ i, i < r → dt (R i) x c = 0) : ∀ j, j < c → x j = 0 := by
 have key : ∀ t, t < k → x (p t) = 0 := fun t ht => by
  have hr : t < r := by have := h.kr; omega
  rw [← h0 t hr]
  unfold dt
  rw [qbe (hc t ht) (fun j hj hne => ?_), h.one t ht, qaz _ (hx _)]
  cases hp : pvt p k j with
  | false => rw [hf j hj hp, qa7]
  | true =>
   obtain ⟨i, hi, e⟩ := (qbu p k j).1 hp
   rw [← e, h.off i t hi hr (fun e2 => hne (by rw [← e, e2])), qaa]
 intro j hj
 cases hp : pvt p k j with
 | false => exact hf j hj hp
 | true =>
  obtain ⟨i, hi, e⟩ := (qbu p k j).1 hp
  rw [← e]
  exact key i hi
/-- The first columns of a reduced matrix none of whose pivots stands behind them. -/
theorem Rdf.first {R N : Nat → Nat → Nat} {r k c : Nat} {p : Nat → Nat} (h : Rdf R r k p) (hc : ∀ i, i < k → p i < c) (e : ∀ i j, i < r → N i j = if j < c then R i j else 0) : Rdf N r k p := by
 have := h.kr
 refine ⟨h.kr, h.up, fun i hi => by rw [e _ _ (by omega), if_pos (hc i hi)]; exact h.one i hi, fun i t hi ht hne => by rw [e _ _ ht, if_pos (hc i hi)]; exact h.off i t hi ht hne, fun i j hi hj => ?_, fun i j hi hr => ?_⟩
 ·rw [e _ _ (by omega)]
  split
  ·exact h.low i j hi hj
  ·rfl
 ·rw [e _ _ hr]
  split
  ·exact h.nul i j hi hr
  ·rfl
theorem Spn.first {M N : Nat → Nat → Nat} {r c : Nat} {y z : Nat → Nat} (h : Spn M r y) (e : ∀ i j, i < r → N i j = if j < c then M i j else 0) (e2 : ∀ j, z j = if j < c then y j else 0) : Spn N r z := by
 obtain ⟨a, ha, ea⟩ := h
 refine ⟨a, ha, fun j => ?_⟩
 rw [e2 j]
 by_cases hj : j < c
 ·rw [if_pos hj, ea j]
  exact qb2 (fun _ _ => rfl) (fun i hi => by rw [e i j hi, if_pos hj])
 ·rw [if_neg hj]
  exact (qad (fun i hi => by rw [e i j hi, if_neg hj, qa7])).symm
/-- The list for a free column f. -/
def kv (R : Nat → Nat → Nat) (p : Nat → Nat) (k f j : Nat) : Nat := if j = f then 1 else pp p k (fun i => R i f) j
theorem qhb {R : Nat → Nat → Nat} (hR : El2 R) (p : Nat → Nat) (k f : Nat) : El (kv R p k f) := fun j => by unfold kv; split; decide; exact qkr p k (fun i => hR i f) j
theorem Rdf.kv {R : Nat → Nat → Nat} (hR : El2 R) {r k c f : Nat} {p : Nat → Nat} (h : Rdf R r k p) (hc : ∀ i, i < k → p i < c) (hf : pvt p k f = false) (hfc : f < c) : ∀ i, i < r → dt (R i) (kv R p k f) c = 0 := by
 intro i hi
 have e : dt (R i) (Go.Proofs.YtblagbghpfopcaaGreat.kv R p k f) c = dt (R i) (fun j => dl f j ^^^ pp p k (fun i => R i f) j) c := qkp (fun j _ => by
  unfold Go.Proofs.YtblagbghpfopcaaGreat.kv
  by_cases e : j = f
  ·rw [if_pos e, e, qbs, qha _ hf]
   rfl
  ·rw [if_neg e, qfr e, Nat.zero_xor])
 rw [e, dt_add, dt_pp (hR i) hc]
 have e1 : dt (R i) (dl f) c = R i f := by
  unfold dt
  rw [qbe hfc (fun j _ hne => by rw [qfr hne, qa7]), qbs, qb6 _ (hR i f)]
 rw [e1]
 by_cases hik : i < k
 ·rw [qbe hik (fun t ht hne => by rw [h.off t i ht hi (Ne.symm hne), qaa]), h.one i hik, qaz _ (hR i f), Nat.xor_self]
 ·rw [h.nul i f (by omega) hi, Nat.zero_xor]
  exact qad (fun t ht => by rw [h.nul i _ (by omega) hi, qaa])
/-- Row i is no combination of the rows above it. -/
def Fst (M : Nat → Nat → Nat) (i : Nat) : Prop := ¬ Spn M i (M i)
/-- Factors that are 0 but at such rows. -/
def OnF (M : Nat → Nat → Nat) (r : Nat) (a : Nat → Nat) : Prop := El a ∧ ∀ i, i < r → a i ≠ 0 → Fst M i
/-- Reduced, square and of full rank: the identity. -/
theorem Rdf.full {R : Nat → Nat → Nat} {n : Nat} {p : Nat → Nat} (h : Rdf R n n p) (hc : ∀ i, i < n → p i < n) : ∀ i j, i < n → j < n → R i j = dl i j := by
 have hp := qfs (p := p) (q := fun i => i) (k := n) (l := n) h.up (fun i t hi _ => hi) (fun i hi => ⟨p i, hc i hi, rfl⟩) (fun j hj => by
  have e := (cnt_pvt h.up hc).1
  have h2 := qft (pvt p n) n
  cases hv : pvt p n j with
  | true =>
   obtain ⟨i, hi, e⟩ := (qbu p n j).1 hv
   exact ⟨i, hi, e.symm⟩
  | false =>
   have := cnt_lt (P := fun j => !pvt p n j) hj (by simp [hv])
   omega)
 intro i j hi hj
 by_cases e : j = i
 ·subst e
  rw [qbs]
  have := h.one j hj
  rwa [hp.2 j hj] at this
 ·rw [qfr e]
  have := h.off j i hj hi (fun e2 => e e2.symm)
  rwa [hp.2 j hj] at this
end Go.Proofs.YtblagbghpfopcaaGreat
