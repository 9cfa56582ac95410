/-
  Rows and their combinations: spans, independence, no more independent rows than rows that span them. A matrix is a function of row and column; there is no last column.
  Reduced matrices: what their pivots tell; there is just one for each span. Ranks.
  What is done to rows: the combinations stay. Elimination, column by column.
  Ranks of a matrix transposed and of products; counting pivot columns and free ones.
  What a reduced form tells: what is sent to a list, what is sent to nothing, rows that are no combinations of those above, inverses.
  Lists as matrices: a round of the elimination, as the lists have it.
  Echelon forms: rows swept downwards, then upwards; what they tell.
-/
import Derived.Test.YtflflmdlhmhkdabGb
import Derived.Test.YtflflmdlhmhkdabGc
namespace Go.Proofs.Ytflflmdlhmhkdab
/-- All entries are elements. -/
def El2 (M : Nat → Nat → Nat) : Prop := ∀ i j, M i j < 256
/-- The combination of the first r rows with the factors a. -/
def lc (a : Nat → Nat) (M : Nat → Nat → Nat) (r : Nat) (j : Nat) : Nat := xs (fun i => fm (a i) (M i j)) r
/-- y is a combination of the first r rows. -/
def Spn (M : Nat → Nat → Nat) (r : Nat) (y : Nat → Nat) : Prop := ∃ a, El a ∧ ∀ j, y j = lc a M r j
/-- The first s rows of N are combinations of the first r rows of M. -/
def Le (N : Nat → Nat → Nat) (s : Nat) (M : Nat → Nat → Nat) (r : Nat) : Prop := ∀ i, i < s → Spn M r (N i)
/-- None of the first r rows is a combination of the others. -/
def Ind (M : Nat → Nat → Nat) (r : Nat) : Prop := ∀ a, El a → (∀ j, lc a M r j = 0) → ∀ i, i < r → a i = 0
def dl (k i : Nat) : Nat := if i = k then 1 else 0
theorem dl_el (k : Nat) : El (dl k) := fun i => by unfold dl; split <;> decide
theorem dl_self (k : Nat) : dl k k = 1 := if_pos rfl
theorem dl_ne {k i : Nat} (h : i ≠ k) : dl k i = 0 := if_neg h
theorem lc_dl {M : Nat → Nat → Nat} (hM : El2 M) {r k : Nat} (hk : k < r) (j : Nat) : lc (dl k) M r j = M k j := by
  unfold lc
  rw [xs_one hk (fun i _ hne => by rw [dl_ne hne, zero_fm]), dl_self, one_fm _ (hM k j)]
theorem lc_lt {a : Nat → Nat} (ha : El a) (M : Nat → Nat → Nat) (r j : Nat) : lc a M r j < 256 := xs_lt (fun i _ => fm_lt _ _ (ha i))
theorem lc_congr {a b : Nat → Nat} {M N : Nat → Nat → Nat} {r : Nat} {j : Nat} (h : ∀ i, i < r → a i = b i) (h2 : ∀ i, i < r → M i j = N i j) : lc a M r j = lc b N r j := xs_congr (fun i hi => by rw [h i hi, h2 i hi])
theorem lc_zero (M : Nat → Nat → Nat) (r j : Nat) {a : Nat → Nat} (h : ∀ i, i < r → a i = 0) : lc a M r j = 0 := xs_zero (fun i hi => by rw [h i hi, zero_fm])
theorem lc_add {a b : Nat → Nat} (ha : El a) (hb : El b) (M : Nat → Nat → Nat) (r j : Nat) : lc (fun i => a i ^^^ b i) M r j = lc a M r j ^^^ lc b M r j := by
  unfold lc
  rw [← xs_add]
  exact xs_congr (fun i _ => xor_fm _ _ _ (ha i) (hb i))
theorem lc_mul {a : Nat → Nat} (ha : El a) {c : Nat} (hc : c < 256) (M : Nat → Nat → Nat) (r j : Nat) : lc (fun i => fm c (a i)) M r j = fm c (lc a M r j) := by
  unfold lc
  rw [xs_mul_l]
  exact xs_congr (fun i _ => fm_assoc _ _ _ hc (ha i))
/-- A combination of combinations. -/
theorem lc_lc {x : Nat → Nat} (hx : El x) {A : Nat → Nat → Nat} (hA : El2 A) (M : Nat → Nat → Nat) (s r j : Nat) : lc x (fun i j => lc (A i) M r j) s j = lc (fun t => lc x A s t) M r j := by
  unfold lc
  have h1 : ∀ i, i < s → fm (x i) (xs (fun t => fm (A i t) (M t j)) r) = xs (fun t => fm (fm (x i) (A i t)) (M t j)) r := fun i _ => by
    rw [xs_mul_l]
    exact xs_congr (fun t _ => (fm_assoc _ _ _ (hx i) (hA i t)).symm)
  rw [xs_congr h1, xs_swap]
  exact xs_congr (fun t _ => (xs_mul_r _ _ _ (fun i _ => fm_lt _ _ (hx i))).symm)
theorem Spn.el {M : Nat → Nat → Nat} {r : Nat} {y : Nat → Nat} (h : Spn M r y) : El y := by
  obtain ⟨a, ha, e⟩ := h
  intro j
  rw [e j]
  exact lc_lt ha M r j
theorem Spn.congr {M : Nat → Nat → Nat} {r : Nat} {y z : Nat → Nat} (h : Spn M r y) (e : ∀ j, z j = y j) : Spn M r z := by
  obtain ⟨a, ha, e'⟩ := h
  exact ⟨a, ha, fun j => by rw [e j, e' j]⟩
theorem Spn.rows {M N : Nat → Nat → Nat} {r : Nat} {y : Nat → Nat} (h : Spn M r y) (e : ∀ i j, i < r → M i j = N i j) : Spn N r y := by
  obtain ⟨a, ha, e'⟩ := h
  exact ⟨a, ha, fun j => by rw [e' j]; exact lc_congr (fun _ _ => rfl) (fun i hi => e i j hi)⟩
theorem spn_row {M : Nat → Nat → Nat} (hM : El2 M) {r k : Nat} (hk : k < r) : Spn M r (M k) := ⟨dl k, dl_el k, fun j => (lc_dl hM hk j).symm⟩
theorem spn_zero (M : Nat → Nat → Nat) (r : Nat) : Spn M r (fun _ => 0) := ⟨fun _ => 0, fun _ => Nat.zero_lt_succ 255, fun j => (lc_zero M r j (fun _ _ => rfl)).symm⟩
theorem spn_add {M : Nat → Nat → Nat} {r : Nat} {y z : Nat → Nat} (hy : Spn M r y) (hz : Spn M r z) : Spn M r (fun j => y j ^^^ z j) := by
  obtain ⟨a, ha, ea⟩ := hy
  obtain ⟨b, hb, eb⟩ := hz
  exact ⟨fun i => a i ^^^ b i, fun i => xor_lt _ _ (ha i) (hb i), fun j => by rw [lc_add ha hb, ← ea j, ← eb j]⟩
theorem spn_mul {M : Nat → Nat → Nat} {r c : Nat} (hc : c < 256) {y : Nat → Nat} (hy : Spn M r y) : Spn M r (fun j => fm c (y j)) := by
  obtain ⟨a, ha, ea⟩ := hy
  exact ⟨fun i => fm c (a i), fun i => fm_lt _ _ hc, fun j => by rw [lc_mul ha hc, ← ea j]⟩
theorem spn_lc {M N : Nat → Nat → Nat} {r s : Nat} (h : Le N s M r) {x : Nat → Nat} (hx : El x) : Spn M r (lc x N s) := by
  induction s with
  | zero => exact (spn_zero M r).congr (fun j => rfl)
  | succ s ih => exact (spn_add (ih (fun i hi => h i (by omega))) (spn_mul (hx s) (h s (by omega)))).congr (fun j => rfl)
theorem Spn.trans {M N : Nat → Nat → Nat} {r s : Nat} {y : Nat → Nat} (hy : Spn N s y) (h : Le N s M r) : Spn M r y := by
  obtain ⟨x, hx, e⟩ := hy
  exact (spn_lc h hx).congr e
theorem Le.refl {M : Nat → Nat → Nat} (hM : El2 M) (r : Nat) : Le M r M r := fun _ hi => spn_row hM hi
theorem Le.trans {M N L : Nat → Nat → Nat} {r s t : Nat} (h : Le L t N s) (h2 : Le N s M r) : Le L t M r := fun i hi => (h i hi).trans h2
theorem Le.more {M : Nat → Nat → Nat} (hM : El2 M) {r s : Nat} (h : r ≤ s) : Le M r M s := fun _ hi => spn_row hM (by omega)
/-- Of a sum one place is taken out. -/
def sk (k i : Nat) : Nat := if i < k then i else i + 1
theorem xs_skip (f : Nat → Nat) (k : Nat) : ∀ s, k ≤ s → xs f (s + 1) = f k ^^^ xs (fun i => f (sk k i)) s := by
  intro s
  induction s with
  | zero =>
    intro h
    obtain rfl : k = 0 := by omega
    simp [xs]
  | succ s ih =>
    intro h
    by_cases e : k = s + 1
    · subst e
      show xs f (s + 1) ^^^ f (s + 1) = _
      rw [Nat.xor_comm]
      congr 1
      exact xs_congr (fun i hi => by unfold sk; rw [if_pos hi])
    · have hk : k ≤ s := by omega
      show xs f (s + 1) ^^^ f (s + 1) = f k ^^^ (xs (fun i => f (sk k i)) s ^^^ f (sk k s))
      rw [ih hk, Nat.xor_assoc]
      congr 3
      unfold sk
      rw [if_neg (by omega)]
/-- x with X at place k, and behind it one further. -/
def ins (k X : Nat) (x : Nat → Nat) (i : Nat) : Nat := if i < k then x i else if i = k then X else x (i - 1)
theorem ins_at (k X : Nat) (x : Nat → Nat) : ins k X x k = X := by unfold ins; rw [if_neg (by omega), if_pos rfl]
theorem ins_sk (k X : Nat) (x : Nat → Nat) (i : Nat) : ins k X x (sk k i) = x i := by
  unfold ins sk
  by_cases h : i < k
  · rw [if_pos h, if_pos h]
  · rw [if_neg h, if_neg (by omega), if_neg (by omega), Nat.add_sub_cancel]
theorem ins_el {k X : Nat} {x : Nat → Nat} (hX : X < 256) (hx : El x) : El (ins k X x) := fun i => by unfold ins; split; exact hx _; split; exact hX; exact hx _
theorem lc_skip (x : Nat → Nat) (A : Nat → Nat → Nat) {k s : Nat} (h : k ≤ s) (j : Nat) : lc x A (s + 1) j = fm (x k) (A k j) ^^^ lc (fun i => x (sk k i)) (fun i => A (sk k i)) s j := xs_skip (fun i => fm (x i) (A i j)) k s h
/-- More rows than columns: some combination that is not nothing is 0 in all columns. -/
theorem homog : ∀ (r s : Nat) (A : Nat → Nat → Nat), El2 A → r < s → ∃ x, El x ∧ (∃ i, i < s ∧ x i ≠ 0) ∧ ∀ t, t < r → lc x A s t = 0 := by
  intro r
  induction r with
  | zero =>
    intro s A hA hs
    exact ⟨dl 0, dl_el 0, ⟨0, hs, by rw [dl_self]; decide⟩, fun t ht => by omega⟩
  | succ r ih =>
    intro s A hA hs
    by_cases h0 : ∀ i, i < s → A i r = 0
    · obtain ⟨x, hx, hn, hz⟩ := ih s A hA (by omega)
      refine ⟨x, hx, hn, fun t ht => ?_⟩
      by_cases e : t = r
      · subst e
        exact xs_zero (fun i hi => by rw [h0 i hi, fm_zero])
      · exact hz t (by omega)
    · obtain ⟨k, hk, hkr⟩ : ∃ k, k < s ∧ A k r ≠ 0 := by
        apply Classical.byContradiction
        intro hno
        exact h0 (fun i hi => Classical.byContradiction fun hne => hno ⟨i, hi, hne⟩)
      obtain ⟨s, rfl⟩ : ∃ s', s = s' + 1 := ⟨s - 1, by omega⟩
      have hv := finv_lt (A k r)
      have hc : ∀ i, fm (A (sk k i) r) (finv (A k r)) < 256 := fun i => fm_lt _ _ (hA _ _)
      obtain ⟨x, hx, ⟨i1, hi1, hn1⟩, hz⟩ := ih s (fun i t => A (sk k i) t ^^^ fm (fm (A (sk k i) r) (finv (A k r))) (A k t)) (fun i t => xor_lt _ _ (hA _ _) (fm_lt _ _ (hc i))) (by omega)
      have hX : xs (fun i => fm (x i) (fm (A (sk k i) r) (finv (A k r)))) s < 256 := xs_lt (fun i _ => fm_lt _ _ (hx i))
      -- what the sum comes to in any column
      have key : ∀ t, lc (ins k (xs (fun i => fm (x i) (fm (A (sk k i) r) (finv (A k r)))) s) x) A (s + 1) t = lc x (fun i t => A (sk k i) t ^^^ fm (fm (A (sk k i) r) (finv (A k r))) (A k t)) s t := by
        intro t
        rw [lc_skip (k := k) _ _ (by omega), ins_at]
        have e1 : lc (fun i => ins k (xs (fun i => fm (x i) (fm (A (sk k i) r) (finv (A k r)))) s) x (sk k i)) (fun i => A (sk k i)) s t = xs (fun i => fm (x i) (A (sk k i) t)) s := xs_congr (fun i _ => by dsimp only; rw [ins_sk])
        rw [e1, xs_mul_r _ _ _ (fun i _ => fm_lt _ _ (hx i)), ← xs_add]
        unfold lc
        exact xs_congr (fun i _ => by rw [fm_xor, Nat.xor_comm, fm_assoc _ _ _ (hx i) (hc i)])
      refine ⟨ins k (xs (fun i => fm (x i) (fm (A (sk k i) r) (finv (A k r)))) s) x, ins_el hX hx, ⟨sk k i1, by unfold sk; split <;> omega, by rw [ins_sk]; exact hn1⟩, fun t ht => ?_⟩
      rw [key t]
      by_cases e : t = r
      · subst e
        exact xs_zero (fun i _ => by
          show fm (x i) (A (sk k i) t ^^^ fm (fm (A (sk k i) t) (finv (A k t))) (A k t)) = 0
          rw [fm_assoc _ _ _ (hA _ _) hv, fm_comm (finv _) _ hv (hA _ _), fm_finv _ (hA _ _) hkr, fm_one _ (hA _ _), Nat.xor_self, fm_zero])
      · exact hz t (by omega)
/-- There are no more independent rows than rows of which they are combinations. -/
theorem steinitz {M N : Nat → Nat → Nat} {r s : Nat} (hN : Ind N s) (h : Le N s M r) : s ≤ r := by
  apply Classical.byContradiction
  intro hlt
  have hch : ∀ i, ∃ a, El a ∧ (i < s → ∀ j, N i j = lc a M r j) := fun i => by
    by_cases hi : i < s
    · obtain ⟨a, ha, e⟩ := h i hi
      exact ⟨a, ha, fun _ => e⟩
    · exact ⟨fun _ => 0, fun _ => Nat.zero_lt_succ 255, fun h => absurd h hi⟩
  obtain ⟨A, hA⟩ := Classical.axiomOfChoice hch
  have hA2 : El2 A := fun i j => (hA i).1 j
  obtain ⟨x, hx, ⟨i, hi, hne⟩, hz⟩ := homog r s A hA2 (by omega)
  refine hne (hN x hx (fun j => ?_) i hi)
  have e1 : lc x N s j = lc x (fun i j => lc (A i) M r j) s j := lc_congr (fun _ _ => rfl) (fun i hi => (hA i).2 hi j)
  rw [e1, lc_lc hx hA2]
  exact lc_zero M r j hz
end Go.Proofs.Ytflflmdlhmhkdab

namespace Go.Proofs.Ytflflmdlhmhkdab
theorem xor_eq {a b : Nat} (h : a ^^^ b = 0) : a = b := by
  have := congrArg (· ^^^ b) h
  simpa [Nat.xor_assoc] using this
/-- The first r rows of M are reduced, with k pivots in the columns p 0 < p 1 < .. -/
structure Rdf (M : Nat → Nat → Nat) (r k : Nat) (p : Nat → Nat) : Prop where
  kr : k ≤ r
  up : ∀ i t, i < t → t < k → p i < p t
  one : ∀ i, i < k → M i (p i) = 1
  off : ∀ i t, i < k → t < r → t ≠ i → M t (p i) = 0
  low : ∀ i j, i < k → j < p i → M i j = 0
  nul : ∀ i j, k ≤ i → i < r → M i j = 0
theorem Rdf.short {M : Nat → Nat → Nat} {r k : Nat} {p : Nat → Nat} (R : Rdf M r k p) (a : Nat → Nat) (j : Nat) : lc a M r j = lc a M k j :=
  xs_ext R.kr (fun i h1 h2 => by rw [R.nul i j h1 h2, fm_zero])
theorem Rdf.coord {M : Nat → Nat → Nat} {r k : Nat} {p : Nat → Nat} (R : Rdf M r k p) {a : Nat → Nat} (ha : El a) {t : Nat} (ht : t < k) : lc a M k (p t) = a t := by
  unfold lc
  have := R.kr
  rw [xs_one ht (fun i hi hne => by rw [R.off t i ht (by omega) hne, fm_zero]), R.one t ht, fm_one _ (ha t)]
theorem Rdf.put {M : Nat → Nat → Nat} {r k : Nat} {p : Nat → Nat} (R : Rdf M r k p) {y : Nat → Nat} (hy : Spn M r y) (j : Nat) : y j = lc (fun t => y (p t)) M k j := by
  obtain ⟨a, ha, e⟩ := hy
  rw [e j, R.short]
  refine lc_congr (fun t ht => ?_) (fun _ _ => rfl)
  rw [e (p t), R.short, R.coord ha ht]
theorem Rdf.ind {M : Nat → Nat → Nat} {r k : Nat} {p : Nat → Nat} (R : Rdf M r k p) : Ind M k := fun a ha h i hi => by
  rw [← R.coord ha hi]
  exact h (p i)
/-- The first entry of a combination that is not nothing stands in a pivot's column. -/
theorem Rdf.lead {M : Nat → Nat → Nat} {r k : Nat} {p : Nat → Nat} (R : Rdf M r k p) {y : Nat → Nat} (hy : Spn M r y) {j : Nat} (hj : y j ≠ 0) : ∃ t, t < k ∧ y (p t) ≠ 0 ∧ ∀ j, j < p t → y j = 0 := by
  have hex : ∃ t, t < k ∧ y (p t) ≠ 0 := by
    apply Classical.byContradiction
    intro hno
    apply hj
    rw [R.put hy j]
    exact lc_zero M k j (fun t ht => Classical.byContradiction fun hne => hno ⟨t, ht, hne⟩)
  -- the least such t
  have hmin : ∀ n, (∃ t, t < n ∧ t < k ∧ y (p t) ≠ 0) → ∃ t, t < k ∧ y (p t) ≠ 0 ∧ ∀ s, s < t → y (p s) = 0 := by
    intro n
    induction n with
    | zero => rintro ⟨t, ht, _⟩; omega
    | succ n ih =>
      rintro ⟨t, ht, htk, hty⟩
      by_cases h : ∃ s, s < n ∧ s < k ∧ y (p s) ≠ 0
      · exact ih h
      · refine ⟨t, htk, hty, fun s hs => Classical.byContradiction fun hne => h ⟨s, by omega, by omega, hne⟩⟩
  obtain ⟨t0, h0⟩ := hex
  obtain ⟨t, ht, hty, hl⟩ := hmin k ⟨t0, h0.1, h0.1, h0.2⟩
  refine ⟨t, ht, hty, fun j hj => ?_⟩
  rw [R.put hy j]
  refine xs_zero (fun i hi => ?_)
  by_cases h : i < t
  · show fm (y (p i)) _ = 0
    rw [hl i h, zero_fm]
  · have : p t ≤ p i := by
      rcases Nat.eq_or_lt_of_le (Nat.le_of_not_lt h) with e | e
      · rw [e]; exact Nat.le_refl _
      · exact Nat.le_of_lt (R.up t i e hi)
    rw [R.low i j hi (by omega), fm_zero]
/-- Two rising lists with the same members are the same. -/
theorem same_seq {k l : Nat} {p q : Nat → Nat} (hp : ∀ i t, i < t → t < k → p i < p t) (hq : ∀ i t, i < t → t < l → q i < q t) (h1 : ∀ i, i < k → ∃ t, t < l ∧ p i = q t) (h2 : ∀ i, i < l → ∃ t, t < k ∧ q i = p t) : k = l ∧ ∀ i, i < k → p i = q i := by
  have key : ∀ (k l : Nat) (p q : Nat → Nat), (∀ i t, i < t → t < k → p i < p t) → (∀ i t, i < t → t < l → q i < q t) → (∀ i, i < k → ∃ t, t < l ∧ p i = q t) → (∀ i, i < l → ∃ t, t < k ∧ q i = p t) → ∀ i, i < k → i < l ∧ p i = q i := by
    intro k l p q hp hq h1 h2 i
    induction i using Nat.strongRecOn with
    | _ i ih =>
      intro hi
      obtain ⟨t, ht, et⟩ := h1 i hi
      have hti : i ≤ t := by
        apply Classical.byContradiction
        intro hlt
        have := (ih t (by omega) (by omega)).2
        have := hp t i (by omega) hi
        omega
      refine ⟨by omega, ?_⟩
      obtain ⟨s, hs, es⟩ := h2 i (by omega)
      have hsi : i ≤ s := by
        apply Classical.byContradiction
        intro hlt
        have := (ih s (by omega) (by omega)).2
        have := hq s i (by omega) (by omega)
        omega
      have a1 : p i ≤ p s := by
        rcases Nat.eq_or_lt_of_le hsi with e | e
        · rw [e]; exact Nat.le_refl _
        · exact Nat.le_of_lt (hp i s e hs)
      have a2 : q i ≤ q t := by
        rcases Nat.eq_or_lt_of_le hti with e | e
        · rw [e]; exact Nat.le_refl _
        · exact Nat.le_of_lt (hq i t e ht)
      omega
  have A := key k l p q hp hq h1 h2
  have B := key l k q p hq hp h2 h1
  refine ⟨?_, fun i hi => (A i hi).2⟩
  have : ¬ k < l := fun h => by have := (B k h).1; omega
  have : ¬ l < k := fun h => by have := (A l h).1; omega
  omega
theorem Rdf.in_pivots {M N : Nat → Nat → Nat} {r s k l : Nat} {p q : Nat → Nat} (RM : Rdf M r k p) (RN : Rdf N s l q) (h : Le M r N s) (i : Nat) (hi : i < k) : ∃ t, t < l ∧ p i = q t := by
  have := RM.kr
  obtain ⟨t, ht, hne, hl⟩ := RN.lead (h i (by omega)) (j := p i) (by rw [RM.one i hi]; decide)
  refine ⟨t, ht, ?_⟩
  have h1 : ¬ q t < p i := fun hlt => hne (RM.low i _ hi hlt)
  have h2 : ¬ p i < q t := fun hlt => by have := hl _ hlt; rw [RM.one i hi] at this; cases this
  omega
/-- Two reduced matrices with the same combinations are the same. -/
theorem Rdf.unique {M N : Nat → Nat → Nat} {r s k l : Nat} {p q : Nat → Nat} (RM : Rdf M r k p) (RN : Rdf N s l q) (h1 : Le M r N s) (h2 : Le N s M r) : k = l ∧ (∀ i, i < k → p i = q i) ∧ ∀ i j, i < r → i < s → M i j = N i j := by
  obtain ⟨rfl, e⟩ := same_seq RM.up RN.up (RM.in_pivots RN h1) (RN.in_pivots RM h2)
  refine ⟨rfl, e, fun i j hr hs => ?_⟩
  by_cases hi : i < k
  · rw [RM.put (h2 i hs) j] at *
    have hM : El (M i) := (h1 i hr).el
    unfold lc
    have hk := RN.kr
    rw [xs_one hi (fun t ht hne => by show fm (N i (p t)) _ = 0; rw [e t ht, RN.off t i ht (by omega) (Ne.symm hne), zero_fm])]
    show _ = fm (N i (p i)) _
    rw [e i hi, RN.one i hi, one_fm _ (hM j)]
  · rw [RM.nul i j (by omega) hr, RN.nul i j (by omega) hs]
/-- Same combinations. -/
def SpEq (M : Nat → Nat → Nat) (r : Nat) (N : Nat → Nat → Nat) (s : Nat) : Prop := Le M r N s ∧ Le N s M r
theorem SpEq.refl {M : Nat → Nat → Nat} (hM : El2 M) (r : Nat) : SpEq M r M r := ⟨Le.refl hM r, Le.refl hM r⟩
theorem SpEq.symm {M N : Nat → Nat → Nat} {r s : Nat} (h : SpEq M r N s) : SpEq N s M r := ⟨h.2, h.1⟩
theorem SpEq.trans {M N L : Nat → Nat → Nat} {r s t : Nat} (h : SpEq M r N s) (h2 : SpEq N s L t) : SpEq M r L t := ⟨h.1.trans h2.1, h2.2.trans h.2⟩
/-- The rank: so many independent rows have the same combinations. -/
def Rk (M : Nat → Nat → Nat) (r k : Nat) : Prop := ∃ N, El2 N ∧ Ind N k ∧ SpEq N k M r
theorem Rk.mono {M N : Nat → Nat → Nat} {r s k l : Nat} (hM : Rk M r k) (hN : Rk N s l) (h : Le N s M r) : l ≤ k := by
  obtain ⟨B, _, _, hB⟩ := hM
  obtain ⟨C, _, hC, hC2⟩ := hN
  exact steinitz hC (hC2.1.trans (h.trans hB.2))
theorem Rk.unique {M N : Nat → Nat → Nat} {r s k l : Nat} (hM : Rk M r k) (hN : Rk N s l) (h : SpEq M r N s) : k = l := Nat.le_antisymm (hN.mono hM h.1) (hM.mono hN h.2)
theorem Rk.le {M : Nat → Nat → Nat} {r k s : Nat} {N : Nat → Nat → Nat} (hM : Rk M r k) (h : Le M r N s) : k ≤ s := by
  obtain ⟨B, _, hI, hB⟩ := hM
  exact steinitz hI (hB.1.trans h)
theorem Rk.rows {M : Nat → Nat → Nat} {r k : Nat} (hE : El2 M) (hM : Rk M r k) : k ≤ r := hM.le (Le.refl hE r)
theorem Rk.span {M N : Nat → Nat → Nat} {r s k : Nat} (hM : Rk M r k) (h : SpEq M r N s) : Rk N s k := by
  obtain ⟨B, hE, hI, hB⟩ := hM
  exact ⟨B, hE, hI, hB.trans h⟩
theorem Rdf.rk {M : Nat → Nat → Nat} (hM : El2 M) {r k : Nat} {p : Nat → Nat} (R : Rdf M r k p) : Rk M r k :=
  ⟨M, hM, R.ind, Le.more hM R.kr, fun i hi => by
    by_cases h : i < k
    · exact spn_row hM h
    · exact (spn_zero M k).congr (fun j => R.nul i j (by omega) hi)⟩
/-- The rank with one row more. -/
theorem Rk.same {M : Nat → Nat → Nat} (hM : El2 M) {r k : Nat} (h : Rk M r k) (hs : Spn M r (M r)) : Rk M (r + 1) k := h.span ⟨Le.more hM (by omega), fun i hi => by
  by_cases e : i = r
  · subst e; exact hs
  · exact spn_row hM (by omega)⟩
theorem Rk.more {M : Nat → Nat → Nat} (hM : El2 M) {r k : Nat} (h : Rk M r k) (hs : ¬ Spn M r (M r)) : Rk M (r + 1) (k + 1) := by
  obtain ⟨B, hE, hI, hB⟩ := h
  have e0 : ∀ (a : Nat → Nat) (j : Nat), lc a (fun i => if i = k then M r else B i) (k + 1) j = lc a B k j ^^^ fm (a k) (M r j) := by
    intro a j
    show xs (fun i => fm (a i) ((if i = k then M r else B i) j)) k ^^^ fm (a k) ((if k = k then M r else B k) j) = _
    rw [if_pos rfl]
    congr 1
    exact xs_congr (fun i hi => by rw [if_neg (by omega)])
  have hE' : El2 (fun i => if i = k then M r else B i) := fun i j => by
    show (if i = k then M r else B i) j < 256
    split
    · exact hM r j
    · exact hE i j
  refine ⟨fun i => if i = k then M r else B i, hE', ?_, ?_, ?_⟩
  · intro a ha hz i hi
    have hk : a k = 0 := Classical.byContradiction fun hne => hs (by
      have hv := finv_lt (a k)
      have : Spn B k (fun j => fm (finv (a k)) (lc a B k j)) := spn_mul hv ⟨a, ha, fun _ => rfl⟩
      refine (this.trans hB.1).congr (fun j => ?_)
      have e : lc a B k j = fm (a k) (M r j) := by
        have := hz j
        rw [e0] at this
        exact xor_eq this
      rw [e, ← fm_assoc _ _ _ hv (ha k), fm_comm _ _ hv (ha k), fm_finv _ (ha k) hne, one_fm _ (hM r j)])
    by_cases e : i = k
    · rw [e]; exact hk
    · refine hI a ha (fun j => ?_) i (by omega)
      have := hz j
      rw [e0, hk, zero_fm, Nat.xor_zero] at this
      exact this
  · intro i hi
    show Spn M (r + 1) (if i = k then M r else B i)
    split
    · exact spn_row hM (by omega)
    · exact (hB.1 i (by omega)).trans (Le.more hM (by omega))
  · have hle : Le B k (fun i => if i = k then M r else B i) (k + 1) := fun i hi => by
      have := spn_row hE' (r := k + 1) (k := i) (by omega)
      exact this.congr (fun j => by show B i j = (if i = k then M r else B i) j; rw [if_neg (by omega)])
    intro i hi
    by_cases e : i = r
    · subst e
      have := spn_row hE' (r := k + 1) (k := k) (by omega)
      exact this.congr (fun j => by show M i j = (if k = k then M i else B k) j; rw [if_pos rfl])
    · exact (hB.2 i (by omega)).trans hle
theorem Rk.zero (M : Nat → Nat → Nat) : Rk M 0 0 := ⟨fun _ _ => 0, fun _ _ => Nat.zero_lt_succ 255, fun _ _ _ i hi => by omega, fun i hi => by omega, fun i hi => by omega⟩
theorem rk_ex {M : Nat → Nat → Nat} (hM : El2 M) (r : Nat) : ∃ k, Rk M r k := by
  induction r with
  | zero => exact ⟨0, Rk.zero M⟩
  | succ r ih =>
    obtain ⟨k, hk⟩ := ih
    by_cases h : Spn M r (M r)
    · exact ⟨k, hk.same hM h⟩
    · exact ⟨k + 1, hk.more hM h⟩
end Go.Proofs.Ytflflmdlhmhkdab

namespace Go.Proofs.Ytflflmdlhmhkdab
/-- Row t is another one. -/
def rw1 (M : Nat → Nat → Nat) (t : Nat) (v : Nat → Nat) (i j : Nat) : Nat := if i = t then v j else M i j
theorem rw1_at (M : Nat → Nat → Nat) (t : Nat) (v : Nat → Nat) (j : Nat) : rw1 M t v t j = v j := if_pos rfl
theorem rw1_ne (M : Nat → Nat → Nat) {t i : Nat} (v : Nat → Nat) (j : Nat) (h : i ≠ t) : rw1 M t v i j = M i j := if_neg h
theorem rw1_el {M : Nat → Nat → Nat} (hM : El2 M) {v : Nat → Nat} (hv : El v) (t : Nat) : El2 (rw1 M t v) := fun i j => by unfold rw1; split; exact hv j; exact hM i j
/-- Two rows change places. -/
def swp (M : Nat → Nat → Nat) (a b i j : Nat) : Nat := if i = a then M b j else if i = b then M a j else M i j
theorem swp_el {M : Nat → Nat → Nat} (hM : El2 M) (a b : Nat) : El2 (swp M a b) := fun i j => by unfold swp; split; exact hM _ _; split; exact hM _ _; exact hM _ _
theorem swp_swp (M : Nat → Nat → Nat) (a b i j : Nat) : swp (swp M a b) a b i j = M i j := by
  unfold swp
  by_cases h1 : i = a
  · subst h1
    rw [if_pos rfl]
    by_cases h2 : b = i
    · rw [if_pos h2, h2]
    · rw [if_neg h2, if_pos rfl]
  · rw [if_neg h1]
    by_cases h2 : i = b
    · subst h2
      rw [if_pos rfl, if_pos rfl]
    · rw [if_neg h2, if_neg h1, if_neg h2]
theorem swp_le {M : Nat → Nat → Nat} (hM : El2 M) {r a b : Nat} (ha : a < r) (hb : b < r) : Le (swp M a b) r M r := fun i hi => by
  by_cases h1 : i = a
  · exact (spn_row hM hb).congr (fun j => by unfold swp; rw [if_pos h1])
  · by_cases h2 : i = b
    · exact (spn_row hM ha).congr (fun j => by unfold swp; rw [if_neg h1, if_pos h2])
    · exact (spn_row hM hi).congr (fun j => by unfold swp; rw [if_neg h1, if_neg h2])
theorem Le.rows {M N L : Nat → Nat → Nat} {s r : Nat} (h : Le N s M r) (e : ∀ i j, i < s → L i j = N i j) : Le L s M r := fun i hi => (h i hi).congr (fun j => e i j hi)
theorem Le.rows2 {M N L : Nat → Nat → Nat} {s r : Nat} (h : Le N s M r) (e : ∀ i j, i < r → M i j = L i j) : Le N s L r := fun i hi => (h i hi).rows e
theorem SpEq.rows {M N L : Nat → Nat → Nat} {s r : Nat} (h : SpEq N s M r) (e : ∀ i j, i < s → L i j = N i j) : SpEq L s M r := ⟨h.1.rows e, h.2.rows2 (fun i j hi => (e i j hi).symm)⟩
theorem spEq_swp {M : Nat → Nat → Nat} (hM : El2 M) {r a b : Nat} (ha : a < r) (hb : b < r) : SpEq (swp M a b) r M r :=
  ⟨swp_le hM ha hb, (swp_le (swp_el hM a b) ha hb).rows (fun i j _ => (swp_swp M a b i j).symm)⟩
/-- A row is multiplied by what is not 0. -/
theorem spEq_scale {M : Nat → Nat → Nat} (hM : El2 M) {r t c : Nat} (_ht : t < r) (hc : c < 256) (h0 : c ≠ 0) : SpEq (rw1 M t (fun j => fm c (M t j))) r M r := by
  have hE : El2 (rw1 M t (fun j => fm c (M t j))) := rw1_el hM (fun j => fm_lt _ _ hc) t
  refine ⟨fun i hi => ?_, fun i hi => ?_⟩
  · by_cases e : i = t
    · subst e
      exact (spn_mul hc (spn_row hM hi)).congr (fun j => rw1_at _ _ _ j)
    · exact (spn_row hM hi).congr (fun j => rw1_ne _ _ j e)
  · by_cases e : i = t
    · subst e
      refine (spn_mul (finv_lt c) (spn_row hE hi)).congr (fun j => ?_)
      rw [rw1_at, ← fm_assoc _ _ _ (finv_lt c) hc, fm_comm _ _ (finv_lt c) hc, fm_finv _ hc h0, one_fm _ (hM i j)]
    · exact (spn_row hE hi).congr (fun j => (rw1_ne _ _ j e).symm)
/-- A multiple of a row is added to another one. -/
theorem spEq_add {M : Nat → Nat → Nat} (hM : El2 M) {r t s c : Nat} (ht : t < r) (hst : s ≠ t) (hc : c < 256) : SpEq (rw1 M s (fun j => M s j ^^^ fm c (M t j))) r M r := by
  have hE : El2 (rw1 M s (fun j => M s j ^^^ fm c (M t j))) := rw1_el hM (fun j => xor_lt _ _ (hM _ _) (fm_lt _ _ hc)) s
  refine ⟨fun i hi => ?_, fun i hi => ?_⟩
  · by_cases e : i = s
    · subst e
      exact (spn_add (spn_row hM hi) (spn_mul hc (spn_row hM ht))).congr (fun j => rw1_at _ _ _ j)
    · exact (spn_row hM hi).congr (fun j => rw1_ne _ _ j e)
  · by_cases e : i = s
    · subst e
      refine (spn_add (spn_row hE hi) (spn_mul hc (spn_row hE ht))).congr (fun j => ?_)
      rw [rw1_at, rw1_ne _ _ j (Ne.symm hst), Nat.xor_assoc, Nat.xor_self, Nat.xor_zero]
    · exact (spn_row hE hi).congr (fun j => (rw1_ne _ _ j e).symm)
/-- All rows but row t: so much of row t is taken off that column j is 0. -/
def clr (M : Nat → Nat → Nat) (t j i l : Nat) : Nat := if i = t then M t l else M i l ^^^ fm (M i j) (M t l)
theorem clr_el {M : Nat → Nat → Nat} (hM : El2 M) (t j : Nat) : El2 (clr M t j) := fun i l => by unfold clr; split; exact hM _ _; exact xor_lt _ _ (hM _ _) (fm_lt _ _ (hM _ _))
theorem spEq_clr {M : Nat → Nat → Nat} (hM : El2 M) {r t : Nat} (ht : t < r) (j : Nat) : SpEq (clr M t j) r M r := by
  have hE := clr_el hM t j
  have et : ∀ l, clr M t j t l = M t l := fun l => if_pos rfl
  refine ⟨fun i hi => ?_, fun i hi => ?_⟩
  · by_cases e : i = t
    · subst e
      exact (spn_row hM hi).congr et
    · exact (spn_add (spn_row hM hi) (spn_mul (hM i j) (spn_row hM ht))).congr (fun l => if_neg e)
  · by_cases e : i = t
    · subst e
      exact (spn_row hE hi).congr (fun l => (et l).symm)
    · refine (spn_add (spn_row hE hi) (spn_mul (hM i j) (spn_row hE ht))).congr (fun l => ?_)
      rw [et l]
      show M i l = (if i = t then M t l else M i l ^^^ fm (M i j) (M t l)) ^^^ _
      rw [if_neg e, Nat.xor_assoc, Nat.xor_self, Nat.xor_zero]
/-- The first columns, below j, are reduced: top pivots so far. -/
structure Elm (M : Nat → Nat → Nat) (r top j : Nat) (p : Nat → Nat) : Prop where
  tr : top ≤ r
  up : ∀ i t, i < t → t < top → p i < p t
  lt : ∀ i, i < top → p i < j
  one : ∀ i, i < top → M i (p i) = 1
  off : ∀ i t, i < top → t < r → t ≠ i → M t (p i) = 0
  low : ∀ i l, i < top → l < p i → M i l = 0
  nul : ∀ i l, top ≤ i → i < r → l < j → M i l = 0
theorem elm_zero (M : Nat → Nat → Nat) (r : Nat) (p : Nat → Nat) : Elm M r 0 0 p := ⟨by omega, fun _ _ _ h => by omega, fun _ h => by omega, fun _ h => by omega, fun _ _ h => by omega, fun _ _ h => by omega, fun _ _ _ _ h => by omega⟩
theorem Elm.rows {M N : Nat → Nat → Nat} {r top j : Nat} {p : Nat → Nat} (h : Elm M r top j p) (e : ∀ i l, i < r → N i l = M i l) : Elm N r top j p := by
  have := h.tr
  exact ⟨h.tr, h.up, h.lt, fun i hi => by rw [e _ _ (by omega)]; exact h.one i hi, fun i t hi ht hne => by rw [e _ _ ht]; exact h.off i t hi ht hne, fun i l hi hl => by rw [e _ _ (by omega)]; exact h.low i l hi hl, fun i l hi hr hl => by rw [e _ _ hr]; exact h.nul i l hi hr hl⟩
theorem Elm.seq {M : Nat → Nat → Nat} {r top j : Nat} {p q : Nat → Nat} (h : Elm M r top j p) (e : ∀ i, i < top → q i = p i) : Elm M r top j q :=
  ⟨h.tr, fun i t hi ht => by rw [e i (by omega), e t ht]; exact h.up i t hi ht, fun i hi => by rw [e i hi]; exact h.lt i hi, fun i hi => by rw [e i hi]; exact h.one i hi, fun i t hi ht hne => by rw [e i hi]; exact h.off i t hi ht hne, fun i l hi hl => by rw [e i hi] at hl; exact h.low i l hi hl, h.nul⟩
theorem Elm.skip {M : Nat → Nat → Nat} {r top j : Nat} {p : Nat → Nat} (h : Elm M r top j p) (h0 : ∀ i, top ≤ i → i < r → M i j = 0) : Elm M r top (j + 1) p :=
  ⟨h.tr, h.up, fun i hi => by have := h.lt i hi; omega, h.one, h.off, h.low, fun i l hi hr hl => by
    by_cases e : l = j
    · subst e; exact h0 i hi hr
    · exact h.nul i l hi hr (by omega)⟩
/-- Two rows below the pivots may change places. -/
theorem Elm.swp {M : Nat → Nat → Nat} {r top j a b : Nat} {p : Nat → Nat} (h : Elm M r top j p) (ha : top ≤ a) (hb : top ≤ b) (har : a < r) (hbr : b < r) : Elm (swp M a b) r top j p := by
  have up : ∀ i l, i < top → Go.Proofs.Ytflflmdlhmhkdab.swp M a b i l = M i l := fun i l hi => by unfold Go.Proofs.Ytflflmdlhmhkdab.swp; rw [if_neg (by omega), if_neg (by omega)]
  refine ⟨h.tr, h.up, h.lt, fun i hi => by rw [up _ _ hi]; exact h.one i hi, fun i t hi ht hne => ?_, fun i l hi hl => by rw [up _ _ hi]; exact h.low i l hi hl, fun i l hi hr hl => ?_⟩
  · unfold Go.Proofs.Ytflflmdlhmhkdab.swp
    split
    · exact h.off i b hi hbr (by omega)
    · split
      · exact h.off i a hi har (by omega)
      · exact h.off i t hi ht hne
  · unfold Go.Proofs.Ytflflmdlhmhkdab.swp
    split
    · exact h.nul b l hb hbr hl
    · split
      · exact h.nul a l ha har hl
      · exact h.nul i l hi hr hl
/-- A row below the pivots may be multiplied. -/
theorem Elm.scale {M : Nat → Nat → Nat} {r top j a c : Nat} {p : Nat → Nat} (h : Elm M r top j p) (ha : top ≤ a) (har : a < r) : Elm (rw1 M a (fun l => fm c (M a l))) r top j p := by
  have up : ∀ i l, i < top → rw1 M a (fun l => fm c (M a l)) i l = M i l := fun i l hi => rw1_ne _ _ _ (by omega)
  refine ⟨h.tr, h.up, h.lt, fun i hi => by rw [up _ _ hi]; exact h.one i hi, fun i t hi ht hne => ?_, fun i l hi hl => by rw [up _ _ hi]; exact h.low i l hi hl, fun i l hi hr hl => ?_⟩
  · unfold rw1
    split
    · show fm c (M a (p i)) = 0
      rw [h.off i a hi har (by omega), fm_zero]
    · exact h.off i t hi ht hne
  · unfold rw1
    split
    · show fm c (M a l) = 0
      rw [h.nul a l ha har hl, fm_zero]
    · exact h.nul i l hi hr hl
/-- One pivot more. -/
theorem Elm.step {M : Nat → Nat → Nat} (hM : El2 M) {r top j : Nat} {p : Nat → Nat} (h : Elm M r top j p) (ht : top < r) (h1 : M top j = 1) : Elm (clr M top j) r (top + 1) (j + 1) (fun i => if i = top then j else p i) := by
  have et : ∀ l, clr M top j top l = M top l := fun l => if_pos rfl
  have en : ∀ i l, i ≠ top → clr M top j i l = M i l ^^^ fm (M i j) (M top l) := fun i l hi => if_neg hi
  -- left of column j the row of the pivot is 0
  have hl : ∀ l, l < j → M top l = 0 := fun l hl => h.nul top l (Nat.le_refl _) ht hl
  have same : ∀ i l, l < j → clr M top j i l = M i l := fun i l hlj => by
    by_cases e : i = top
    · rw [e, et]
    · rw [en _ _ e, hl l hlj, fm_zero, Nat.xor_zero]
  have hpj : ∀ i, i < top → p i < j := h.lt
  refine ⟨by omega, fun i t hi ht' => ?_, fun i hi => ?_, fun i hi => ?_, fun i t hi htr hne => ?_, fun i l hi hlp => ?_, fun i l hi hr hlj => ?_⟩
  · show (if i = top then j else p i) < (if t = top then j else p t)
    rw [if_neg (by omega)]
    split
    · exact hpj i (by omega)
    · exact h.up i t hi (by omega)
  · show (if i = top then j else p i) < j + 1
    split
    · omega
    · have := hpj i (by omega); omega
  · show clr M top j i (if i = top then j else p i) = 1
    by_cases e : i = top
    · rw [if_pos e, e, et, h1]
    · rw [if_neg e, same _ _ (hpj i (by omega))]; exact h.one i (by omega)
  · show clr M top j t (if i = top then j else p i) = 0
    by_cases e : i = top
    · rw [if_pos e, en _ _ (by omega), h1, fm_one _ (hM t j), Nat.xor_self]
    · rw [if_neg e, same _ _ (hpj i (by omega))]; exact h.off i t (by omega) htr hne
  · have hlp : l < (if i = top then j else p i) := hlp
    by_cases e : i = top
    · rw [if_pos e] at hlp
      rw [e, et]; exact hl l hlp
    · rw [if_neg e] at hlp
      rw [same _ _ (by have := hpj i (by omega); omega)]; exact h.low i l (by omega) hlp
  · by_cases e : l = j
    · subst e
      rw [en _ _ (by omega), h1, fm_one _ (hM i l), Nat.xor_self]
    · rw [same _ _ (by omega)]; exact h.nul i l (by omega) hr (by omega)
theorem Elm.rdf {M : Nat → Nat → Nat} {r top j : Nat} {p : Nat → Nat} (h : Elm M r top j p) (h0 : top = r ∨ ∀ i l, i < r → j ≤ l → M i l = 0) : Rdf M r top p :=
  ⟨h.tr, h.up, h.one, h.off, h.low, fun i l hi hr => by
    rcases h0 with e | h0
    · omega
    · by_cases e : l < j
      · exact h.nul i l hi hr e
      · exact h0 i l hr (by omega)⟩
/-- Behind the last column all is 0. -/
def Cut (M : Nat → Nat → Nat) (c : Nat) : Prop := ∀ i j, c ≤ j → M i j = 0
theorem Spn.cut {M : Nat → Nat → Nat} {r c : Nat} {y : Nat → Nat} (h : Spn M r y) (hM : ∀ i j, i < r → c ≤ j → M i j = 0) (j : Nat) (hj : c ≤ j) : y j = 0 := by
  obtain ⟨a, _, e⟩ := h
  rw [e j]
  exact xs_zero (fun i hi => by rw [hM i j hi hj, fm_zero])
theorem Le.cut {M N : Nat → Nat → Nat} {r s c : Nat} (h : Le N s M r) (hM : ∀ i j, i < r → c ≤ j → M i j = 0) : ∀ i j, i < s → c ≤ j → N i j = 0 := fun i j hi hj => (h i hi).cut hM j hj
end Go.Proofs.Ytflflmdlhmhkdab

namespace Go.Proofs.Ytflflmdlhmhkdab
/-- The first r rows, transposed. -/
def tpo (M : Nat → Nat → Nat) (r i j : Nat) : Nat := if j < r then M j i else 0
theorem tpo_el {M : Nat → Nat → Nat} (hM : El2 M) (r : Nat) : El2 (tpo M r) := fun i j => by unfold tpo; split; exact hM _ _; decide
theorem Rk.at {M N : Nat → Nat → Nat} {r k : Nat} (h : Rk M r k) (e : ∀ i j, i < r → N i j = M i j) : Rk N r k := by
  obtain ⟨B, hE, hI, hB⟩ := h
  exact ⟨B, hE, hI, hB.1.rows2 (fun i j hi => (e i j hi).symm), hB.2.rows e⟩
/-- The factors of all rows at once. -/
theorem Le.factors {M N : Nat → Nat → Nat} {r s : Nat} (h : Le N s M r) : ∃ A, El2 A ∧ ∀ i, i < s → ∀ j, N i j = lc (A i) M r j := by
  have hch : ∀ i, ∃ a, El a ∧ (i < s → ∀ j, N i j = lc a M r j) := fun i => by
    by_cases hi : i < s
    · obtain ⟨a, ha, e⟩ := h i hi
      exact ⟨a, ha, fun _ => e⟩
    · exact ⟨fun _ => 0, fun _ => Nat.zero_lt_succ 255, fun h => absurd h hi⟩
  obtain ⟨A, hA⟩ := Classical.axiomOfChoice hch
  exact ⟨A, fun i j => (hA i).1 j, fun i hi j => (hA i).2 hi j⟩
theorem rk_tpo_le {M : Nat → Nat → Nat} {r c k l : Nat} (hM : Rk M r k) (hT : Rk (tpo M r) c l) : l ≤ k := by
  obtain ⟨N, hE, _, hN⟩ := hM
  obtain ⟨A, hA, eA⟩ := hN.2.factors
  refine hT.le (N := fun t i => if i < r then A i t else 0) (fun u _ => ⟨fun t => N t u, fun t => hE t u, fun i => ?_⟩)
  unfold tpo
  by_cases hi : i < r
  · rw [if_pos hi, eA i hi u]
    exact xs_congr (fun t _ => by dsimp only; rw [if_pos hi, fm_comm _ _ (hA i t) (hE t u)])
  · rw [if_neg hi]
    exact (xs_zero (fun t _ => by dsimp only; rw [if_neg hi, fm_zero])).symm
/-- The rank is that of the matrix transposed. -/
theorem rk_tpo {M : Nat → Nat → Nat} {r c k l : Nat} (hc : ∀ i j, i < r → c ≤ j → M i j = 0) (hM : Rk M r k) (hT : Rk (tpo M r) c l) : k = l := by
  refine Nat.le_antisymm (rk_tpo_le hT (hM.at (N := tpo (tpo M r) c) (fun i j hi => ?_))) (rk_tpo_le hM hT)
  unfold tpo
  by_cases hj : j < c
  · rw [if_pos hj, if_pos hi]
  · rw [if_neg hj, hc i j hi (by omega)]
/-- The product. -/
def pr (A B : Nat → Nat → Nat) (n i j : Nat) : Nat := lc (A i) B n j
theorem pr_el {A : Nat → Nat → Nat} (hA : El2 A) (B : Nat → Nat → Nat) (n : Nat) : El2 (pr A B n) := fun i j => lc_lt (hA i) B n j
theorem pr_le {A : Nat → Nat → Nat} (hA : El2 A) (B : Nat → Nat → Nat) (n r : Nat) : Le (pr A B n) r B n := fun i _ => ⟨A i, hA i, fun _ => rfl⟩
/-- Rows that are combinations stay so in the products. -/
theorem Le.pr {A C : Nat → Nat → Nat} {r s : Nat} (h : Le A r C s) (hC : El2 C) (B : Nat → Nat → Nat) (n : Nat) : Le (pr A B n) r (pr C B n) s := fun i hi => by
  obtain ⟨x, hx, e⟩ := h i hi
  refine ⟨x, hx, fun j => ?_⟩
  have e1 : Go.Proofs.Ytflflmdlhmhkdab.pr A B n i j = lc (fun t => lc x C s t) B n j := lc_congr (fun t _ => e t) (fun _ _ => rfl)
  rw [e1]
  exact (lc_lc hx hC B s n j).symm
theorem rk_prod_r {A B : Nat → Nat → Nat} (hA : El2 A) {r n b k : Nat} (hB : Rk B n b) (hP : Rk (pr A B n) r k) : k ≤ b := hB.mono hP (pr_le hA B n r)
theorem rk_prod_l {A B : Nat → Nat → Nat} {r n a k : Nat} (hA : Rk A r a) (hP : Rk (pr A B n) r k) : k ≤ a := by
  obtain ⟨N, hE, _, hN⟩ := hA
  exact hP.le (hN.2.pr hE B n)
/-- How many below n, and which. -/
def cnt (P : Nat → Bool) : Nat → Nat
  | 0 => 0
  | n + 1 => cnt P n + if P n then 1 else 0
def nth (P : Nat → Bool) : Nat → Nat → Nat
  | 0, _ => 0
  | n + 1, u => if P n = true ∧ u = cnt P n then n else nth P n u
theorem cnt_yes {P : Nat → Bool} {n : Nat} (h : P n = true) : cnt P (n + 1) = cnt P n + 1 := by simp [cnt, h]
theorem cnt_no {P : Nat → Bool} {n : Nat} (h : P n = false) : cnt P (n + 1) = cnt P n := by simp [cnt, h]
theorem cnt_mono (P : Nat → Bool) {n m : Nat} (h : n ≤ m) : cnt P n ≤ cnt P m := by
  induction h with
  | refl => exact Nat.le_refl _
  | step _ ih => exact Nat.le_trans ih (Nat.le_add_right _ _)
theorem nth_spec (P : Nat → Bool) : ∀ n u, u < cnt P n → nth P n u < n ∧ P (nth P n u) = true ∧ cnt P (nth P n u) = u := by
  intro n
  induction n with
  | zero => intro u hu; simp [cnt] at hu
  | succ n ih =>
    intro u hu
    unfold nth
    by_cases h : P n = true ∧ u = cnt P n
    · rw [if_pos h]
      exact ⟨by omega, h.1, h.2.symm⟩
    · rw [if_neg h]
      have hu' : u < cnt P n := by
        cases hp : P n with
        | false => rwa [cnt_no hp] at hu
        | true =>
          rw [cnt_yes hp] at hu
          have : u ≠ cnt P n := fun e => h ⟨hp, e⟩
          omega
      obtain ⟨h1, h2, h3⟩ := ih u hu'
      exact ⟨by omega, h2, h3⟩
theorem cnt_lt {P : Nat → Bool} {j n : Nat} (hj : j < n) (h : P j = true) : cnt P j < cnt P n := by
  have := cnt_mono P (show j + 1 ≤ n from hj)
  rw [cnt_yes h] at this
  omega
theorem nth_cnt {P : Nat → Bool} {j n : Nat} (hj : j < n) (h : P j = true) : nth P n (cnt P j) = j := by
  obtain ⟨h1, h2, h3⟩ := nth_spec P n (cnt P j) (cnt_lt hj h)
  apply Classical.byContradiction
  intro hne
  rcases Nat.lt_or_ge (nth P n (cnt P j)) j with hlt | hge
  · have := cnt_lt hlt h2; omega
  · have := cnt_lt (show j < nth P n (cnt P j) by omega) h; omega
theorem nth_up {P : Nat → Bool} {n u v : Nat} (h : u < v) (hv : v < cnt P n) : nth P n u < nth P n v := by
  obtain ⟨_, _, h3⟩ := nth_spec P n u (by omega)
  obtain ⟨_, _, g3⟩ := nth_spec P n v hv
  apply Classical.byContradiction
  intro hge
  have := cnt_mono P (Nat.le_of_not_lt hge)
  omega
theorem cnt_not (P : Nat → Bool) (n : Nat) : cnt P n + cnt (fun j => !P j) n = n := by
  induction n with
  | zero => rfl
  | succ n ih =>
    cases h : P n with
    | false => rw [cnt_no h, cnt_yes (P := fun j => !P j) (by simp [h])]; omega
    | true => rw [cnt_yes h, cnt_no (P := fun j => !P j) (by simp [h])]; omega
/-- Column j is a pivot's. -/
def pvt (p : Nat → Nat) (k j : Nat) : Bool := (List.range k).any (fun i => p i == j)
theorem pvt_iff (p : Nat → Nat) (k j : Nat) : pvt p k j = true ↔ ∃ i, i < k ∧ p i = j := by simp [pvt]
theorem pvt_no {p : Nat → Nat} {k j : Nat} (h : pvt p k j = false) {i : Nat} (hi : i < k) : p i ≠ j := fun e => by
  rw [(pvt_iff p k j).2 ⟨i, hi, e⟩] at h
  cases h
theorem cnt_pvt {p : Nat → Nat} {k n : Nat} (up : ∀ i t, i < t → t < k → p i < p t) (hn : ∀ i, i < k → p i < n) : cnt (pvt p k) n = k ∧ ∀ i, i < k → nth (pvt p k) n i = p i := by
  have := same_seq (p := p) (q := nth (pvt p k) n) (k := k) (l := cnt (pvt p k) n) up (fun i t hi ht => nth_up hi ht) (fun i hi => by
    have hp : pvt p k (p i) = true := (pvt_iff p k (p i)).2 ⟨i, hi, rfl⟩
    exact ⟨_, cnt_lt (hn i hi) hp, (nth_cnt (hn i hi) hp).symm⟩) (fun u hu => by
    obtain ⟨_, h2, _⟩ := nth_spec (pvt p k) n u hu
    obtain ⟨i, hi, e⟩ := (pvt_iff p k _).1 h2
    exact ⟨i, hi, e.symm⟩)
  exact ⟨this.1.symm, fun i hi => (this.2 i hi).symm⟩
/-- There are as many free columns as columns less pivots. -/
theorem cnt_free {p : Nat → Nat} {k n : Nat} (up : ∀ i t, i < t → t < k → p i < p t) (hn : ∀ i, i < k → p i < n) : k + cnt (fun j => !pvt p k j) n = n := by
  have h1 := (cnt_pvt up hn).1
  have h2 := cnt_not (pvt p k) n
  omega
theorem spn_lc_some {M N : Nat → Nat → Nat} {r s : Nat} {x : Nat → Nat} (hx : El x) (h : ∀ i, i < s → x i ≠ 0 → Spn M r (N i)) : Spn M r (lc x N s) := by
  induction s with
  | zero => exact (spn_zero M r).congr (fun j => rfl)
  | succ s ih =>
    have ih := ih (fun i hi => h i (by omega))
    by_cases e : x s = 0
    · exact ih.congr (fun j => by show xs (fun i => fm (x i) (N i j)) s ^^^ fm (x s) (N s j) = _; rw [e, zero_fm, Nat.xor_zero]; rfl)
    · exact (spn_add ih (spn_mul (hx s) (h s (by omega) e))).congr (fun j => rfl)
/-- The rank of a product is at least the ranks of both, less the columns of the first. -/
theorem rk_prod_ge {A B R : Nat → Nat → Nat} (hA : El2 A) (hB : El2 B) {r n a b k : Nat} {p : Nat → Nat} (RR : Rdf R r a p) (hR : El2 R) (hS : SpEq R r A r) (hn : ∀ i, i < a → p i < n) (rB : Rk B n b) (rP : Rk (pr A B n) r k) : a + b ≤ k + n := by
  obtain ⟨C, hC, _, hCP⟩ := rP
  obtain ⟨free, hfree⟩ : ∃ f, (fun j => !pvt p a j) = f := ⟨_, rfl⟩
  have hcount : a + cnt free n = n := by rw [← hfree]; exact cnt_free RR.up hn
  obtain ⟨V, hV⟩ : ∃ V : Nat → Nat → Nat, V = fun u => if u < k then C u else B (nth free n (u - k)) := ⟨_, rfl⟩
  have hVE : El2 V := fun u j => by
    rw [hV]
    show (if u < k then C u else B (nth free n (u - k))) j < 256
    split
    · exact hC u j
    · exact hB _ j
  have hVC : Le C k V (k + cnt free n) := fun u hu => (spn_row hVE (show u < k + cnt free n by omega)).congr (fun j => by rw [hV]; show C u j = (if u < k then C u else B (nth free n (u - k))) j; rw [if_pos hu])
  have hVF : ∀ t, t < n → free t = true → Spn V (k + cnt free n) (B t) := fun t ht hf => by
    have h1 := cnt_lt ht hf
    refine (spn_row hVE (show k + cnt free t < k + cnt free n by omega)).congr (fun j => ?_)
    rw [hV]
    show B t j = (if k + cnt free t < k then C (k + cnt free t) else B (nth free n (k + cnt free t - k))) j
    rw [if_neg (by omega), Nat.add_sub_cancel_left, nth_cnt ht hf]
  have hle : Le B n V (k + cnt free n) := by
    intro t ht
    cases hf : free t with
    | true => exact hVF t ht hf
    | false =>
      obtain ⟨i, hi, rfl⟩ : ∃ i, i < a ∧ p i = t := by
        rw [← hfree] at hf
        exact (pvt_iff p a t).1 (by simpa using hf)
      have hir : i < r := by have := RR.kr; omega
      -- the row of the product with R is a combination of the product's rows
      have h1 : Spn V (k + cnt free n) (fun j => lc (R i) B n j) := ((hS.1.pr hA B n i hir).trans hCP.2).trans hVC
      have hx : El (fun t => if t = p i then 0 else R i t) := fun t => by
        show (if t = p i then 0 else R i t) < 256
        split
        · decide
        · exact hR i t
      have h2 : Spn V (k + cnt free n) (lc (fun t => if t = p i then 0 else R i t) B n) := spn_lc_some hx (fun t ht hne => by
        have hne : (if t = p i then 0 else R i t) ≠ 0 := hne
        by_cases e : t = p i
        · rw [if_pos e] at hne; exact absurd rfl hne
        · rw [if_neg e] at hne
          refine hVF t ht ?_
          cases hf : free t with
          | true => rfl
          | false =>
            obtain ⟨i', hi', e'⟩ : ∃ i, i < a ∧ p i = t := by
              rw [← hfree] at hf
              exact (pvt_iff p a t).1 (by simpa using hf)
            exfalso
            apply hne
            rw [← e']
            exact RR.off i' i hi' hir (fun h => e (by rw [h, e'])))
      refine (spn_add h1 h2).congr (fun j => ?_)
      have e1 : lc (R i) B n j = lc (fun t => dl (p i) t ^^^ (if t = p i then 0 else R i t)) B n j := lc_congr (fun t _ => by
        by_cases e : t = p i
        · rw [if_pos e, e, dl_self, RR.one i hi]; rfl
        · rw [if_neg e, dl_ne e, Nat.zero_xor]) (fun _ _ => rfl)
      rw [e1, lc_add (dl_el _) hx, lc_dl hB (hn i hi), Nat.xor_assoc, Nat.xor_self, Nat.xor_zero]
  have := rB.le hle
  omega
end Go.Proofs.Ytflflmdlhmhkdab

namespace Go.Proofs.Ytflflmdlhmhkdab
/-- What row y is sent to by x: the first c columns count. -/
def dt (y x : Nat → Nat) (c : Nat) : Nat := xs (fun j => fm (y j) (x j)) c
theorem dt_lc {a : Nat → Nat} (ha : El a) {M : Nat → Nat → Nat} (hM : El2 M) (r : Nat) (x : Nat → Nat) (c : Nat) : dt (lc a M r) x c = xs (fun i => fm (a i) (dt (M i) x c)) r := by
  unfold dt lc
  have h1 : ∀ j, j < c → fm (xs (fun i => fm (a i) (M i j)) r) (x j) = xs (fun i => fm (a i) (fm (M i j) (x j))) r := fun j _ => by
    rw [xs_mul_r _ _ _ (fun i _ => fm_lt _ _ (ha i))]
    exact xs_congr (fun i _ => fm_assoc _ _ _ (ha i) (hM i j))
  rw [xs_congr h1, xs_swap]
  exact xs_congr (fun i _ => (xs_mul_l _ _ _).symm)
theorem dt_congr {y z x : Nat → Nat} {c : Nat} (h : ∀ j, j < c → y j = z j) : dt y x c = dt z x c := xs_congr (fun j hj => by rw [h j hj])
theorem dt_congr2 {y x z : Nat → Nat} {c : Nat} (h : ∀ j, j < c → x j = z j) : dt y x c = dt y z c := xs_congr (fun j hj => by rw [h j hj])
theorem dt_add (y x z : Nat → Nat) (c : Nat) : dt y (fun j => x j ^^^ z j) c = dt y x c ^^^ dt y z c := by
  unfold dt
  rw [← xs_add]
  exact xs_congr (fun j _ => fm_xor _ _ _)
theorem dt_zero (y : Nat → Nat) {x : Nat → Nat} {c : Nat} (h : ∀ j, j < c → x j = 0) : dt y x c = 0 := xs_zero (fun j hj => by rw [h j hj, fm_zero])
theorem dt_lt {y : Nat → Nat} (hy : El y) (x : Nat → Nat) (c : Nat) : dt y x c < 256 := xs_lt (fun j _ => fm_lt _ _ (hy j))
/-- What all rows send to nothing all their combinations do. -/
theorem dt_span {M : Nat → Nat → Nat} (hM : El2 M) {r c : Nat} {x y : Nat → Nat} (hy : Spn M r y) (h : ∀ i, i < r → dt (M i) x c = 0) : dt y x c = 0 := by
  obtain ⟨a, ha, e⟩ := hy
  have : dt y x c = dt (lc a M r) x c := dt_congr (fun j _ => e j)
  rw [this, dt_lc ha hM]
  exact xs_zero (fun i hi => by rw [h i hi, fm_zero])
/-- The matrix with a further column, in place c. -/
def aug (M : Nat → Nat → Nat) (c : Nat) (b : Nat → Nat) (i j : Nat) : Nat := if j = c then b i else M i j
theorem aug_el {M : Nat → Nat → Nat} (hM : El2 M) (c : Nat) {b : Nat → Nat} (hb : El b) : El2 (aug M c b) := fun i j => by unfold aug; split; exact hb i; exact hM i j
theorem aug_at (M : Nat → Nat → Nat) (c : Nat) (b : Nat → Nat) (i : Nat) : aug M c b i c = b i := if_pos rfl
theorem aug_lt (M : Nat → Nat → Nat) {c j : Nat} (b : Nat → Nat) (i : Nat) (h : j < c) : aug M c b i j = M i j := if_neg (by omega)
/-- x is sent to b. -/
def Sol (M : Nat → Nat → Nat) (r c : Nat) (b x : Nat → Nat) : Prop := ∀ i, i < r → dt (M i) x c = b i
theorem dt_aug (M : Nat → Nat → Nat) (c : Nat) {b : Nat → Nat} (hb : El b) (x : Nat → Nat) (i : Nat) : dt (aug M c b i) (fun j => if j = c then 1 else x j) (c + 1) = dt (M i) x c ^^^ b i := by
  show xs (fun j => fm (aug M c b i j) (if j = c then 1 else x j)) c ^^^ fm (aug M c b i c) (if c = c then 1 else x c) = _
  rw [aug_at, if_pos rfl, fm_one _ (hb i)]
  congr 1
  exact xs_congr (fun j hj => by rw [aug_lt _ _ _ hj, if_neg (by omega)])
theorem sol_aug {M : Nat → Nat → Nat} {r c : Nat} {b : Nat → Nat} (hb : El b) (x : Nat → Nat) : Sol M r c b x ↔ ∀ i, i < r → dt (aug M c b i) (fun j => if j = c then 1 else x j) (c + 1) = 0 := by
  constructor
  · intro h i hi
    rw [dt_aug M c hb, h i hi, Nat.xor_self]
  · intro h i hi
    have := h i hi
    rw [dt_aug M c hb] at this
    exact xor_eq this
/-- What is done to rows and to b alike leaves what is sent to b. -/
theorem sol_span {M N : Nat → Nat → Nat} (hM : El2 M) {r s c : Nat} {b d : Nat → Nat} (hb : El b) (hd : El d) (h : Le (aug N c d) s (aug M c b) r) {x : Nat → Nat} (hx : Sol M r c b x) : Sol N s c d x := by
  rw [sol_aug hd]
  rw [sol_aug hb] at hx
  exact fun i hi => dt_span (aug_el hM c hb) (h i hi) hx
/-- v's numbers at the pivots' columns, else 0. -/
def pp (p : Nat → Nat) (k : Nat) (v : Nat → Nat) (j : Nat) : Nat := xs (fun i => if p i = j then v i else 0) k
theorem pp_at {p : Nat → Nat} {k : Nat} (up : ∀ i t, i < t → t < k → p i < p t) (v : Nat → Nat) {t : Nat} (ht : t < k) : pp p k v (p t) = v t := by
  unfold pp
  rw [xs_one ht (fun i hi hne => if_neg (fun e => by
    rcases Nat.lt_or_gt_of_ne hne with h | h
    · have := up i t h ht; omega
    · have := up t i h hi; omega)), if_pos rfl]
theorem pp_free {p : Nat → Nat} {k j : Nat} (v : Nat → Nat) (h : pvt p k j = false) : pp p k v j = 0 := xs_zero (fun _ hi => if_neg (pvt_no h hi))
theorem pp_el (p : Nat → Nat) (k : Nat) {v : Nat → Nat} (hv : El v) : El (pp p k v) := fun _ => xs_lt (fun i _ => ite_lt _ _ (hv i))
theorem dt_pp {y : Nat → Nat} (_hy : El y) {p : Nat → Nat} {k c : Nat} (hc : ∀ i, i < k → p i < c) (v : Nat → Nat) : dt y (pp p k v) c = xs (fun i => fm (y (p i)) (v i)) k := by
  unfold dt pp
  have h1 : ∀ j, j < c → fm (y j) (xs (fun i => if p i = j then v i else 0) k) = xs (fun i => if p i = j then fm (y j) (v i) else 0) k := fun j _ => by
    rw [xs_mul_l]
    exact xs_congr (fun i _ => ite_fm _ _ _)
  rw [xs_congr h1, xs_swap]
  refine xs_congr (fun i hi => ?_)
  rw [xs_one (hc i hi) (fun j _ hne => if_neg (fun e => hne e.symm)), if_pos rfl]
/-- A reduced matrix sends v's numbers, put at the pivots, to v. -/
theorem Rdf.sends {R : Nat → Nat → Nat} (hR : El2 R) {r k c : Nat} {p : Nat → Nat} (h : Rdf R r k p) (hc : ∀ i, i < k → p i < c) {v : Nat → Nat} (hv : El v) (h0 : ∀ i, k ≤ i → i < r → v i = 0) : Sol R r c v (pp p k v) := by
  intro i hi
  rw [dt_pp (hR i) hc]
  by_cases e : i < k
  · rw [xs_one e (fun t ht hne => by rw [h.off t i ht hi (Ne.symm hne), zero_fm]), h.one i e, one_fm _ (hv i)]
  · rw [h0 i (by omega) hi]
    exact xs_zero (fun t ht => by rw [h.nul i _ (by omega) hi, zero_fm])
/-- Of what a reduced matrix sends to nothing the pivots' numbers are told by the others. -/
theorem Rdf.zero_at {R : Nat → Nat → Nat} {r k c : Nat} {p : Nat → Nat} (h : Rdf R r k p) (hc : ∀ i, i < k → p i < c) {x : Nat → Nat} (hx : El x) (hf : ∀ j, j < c → pvt p k j = false → x j = 0) (h0 : ∀ i, i < r → dt (R i) x c = 0) : ∀ j, j < c → x j = 0 := by
  have key : ∀ t, t < k → x (p t) = 0 := fun t ht => by
    have hr : t < r := by have := h.kr; omega
    rw [← h0 t hr]
    unfold dt
    rw [xs_one (hc t ht) (fun j hj hne => ?_), h.one t ht, one_fm _ (hx _)]
    cases hp : pvt p k j with
    | false => rw [hf j hj hp, fm_zero]
    | true =>
      obtain ⟨i, hi, e⟩ := (pvt_iff p k j).1 hp
      rw [← e, h.off i t hi hr (fun e2 => hne (by rw [← e, e2])), zero_fm]
  intro j hj
  cases hp : pvt p k j with
  | false => exact hf j hj hp
  | true =>
    obtain ⟨i, hi, e⟩ := (pvt_iff p k j).1 hp
    rw [← e]
    exact key i hi
/-- There is just one that is sent to b and is 0 at the free columns. -/
theorem sol_unique {M R : Nat → Nat → Nat} (hM : El2 M) {r k c : Nat} {p : Nat → Nat} (h : Rdf R r k p) (hc : ∀ i, i < k → p i < c) (hS : Le R r M r) {b x z : Nat → Nat} (hx : El x) (hz : El z) (sx : Sol M r c b x) (sz : Sol M r c b z)
    (fx : ∀ j, j < c → pvt p k j = false → x j = 0) (fz : ∀ j, j < c → pvt p k j = false → z j = 0) : ∀ j, j < c → x j = z j := by
  have hd : ∀ i, i < r → dt (M i) (fun j => x j ^^^ z j) c = 0 := fun i hi => by rw [dt_add, sx i hi, sz i hi, Nat.xor_self]
  intro j hj
  refine xor_eq (h.zero_at hc (x := fun j => x j ^^^ z j) (fun j => xor_lt _ _ (hx j) (hz j)) (fun j hj hf => ?_) (fun i hi => dt_span hM (hS i hi) hd) j hj)
  show x j ^^^ z j = 0
  rw [fx j hj hf, fz j hj hf]; rfl
/-- A pivot in the further column: nothing is sent to b. -/
theorem no_sol {M R : Nat → Nat → Nat} (hM : El2 M) {r c k : Nat} {p : Nat → Nat} {b : Nat → Nat} (hb : El b) (h : Rdf R r k p) (hS : Le R r (aug M c b) r) {i : Nat} (hi : i < k) (hp : p i = c) (x : Nat → Nat) : ¬ Sol M r c b x := by
  intro hx
  rw [sol_aug hb] at hx
  have hr : i < r := by have := h.kr; omega
  have h0 := dt_span (aug_el hM c hb) (hS i hr) hx
  have h1 : dt (R i) (fun j => if j = c then 1 else x j) (c + 1) = 1 := by
    unfold dt
    rw [xs_one (show c < c + 1 by omega) (fun j hj hne => by rw [h.low i j hi (by omega), zero_fm])]
    show fm (R i c) (if c = c then 1 else x c) = 1
    rw [if_pos rfl]
    have := h.one i hi
    rw [hp] at this
    rw [this]; exact one_fm 1 (by decide)
  omega
/-- The first columns of a reduced matrix none of whose pivots stands behind them. -/
theorem Rdf.first {R N : Nat → Nat → Nat} {r k c : Nat} {p : Nat → Nat} (h : Rdf R r k p) (hc : ∀ i, i < k → p i < c) (e : ∀ i j, i < r → N i j = if j < c then R i j else 0) : Rdf N r k p := by
  have := h.kr
  refine ⟨h.kr, h.up, fun i hi => by rw [e _ _ (by omega), if_pos (hc i hi)]; exact h.one i hi, fun i t hi ht hne => by rw [e _ _ ht, if_pos (hc i hi)]; exact h.off i t hi ht hne, fun i j hi hj => ?_, fun i j hi hr => ?_⟩
  · rw [e _ _ (by omega)]
    split
    · exact h.low i j hi hj
    · rfl
  · rw [e _ _ hr]
    split
    · exact h.nul i j hi hr
    · rfl
theorem Spn.first {M N : Nat → Nat → Nat} {r c : Nat} {y z : Nat → Nat} (h : Spn M r y) (e : ∀ i j, i < r → N i j = if j < c then M i j else 0) (e2 : ∀ j, z j = if j < c then y j else 0) : Spn N r z := by
  obtain ⟨a, ha, ea⟩ := h
  refine ⟨a, ha, fun j => ?_⟩
  rw [e2 j]
  by_cases hj : j < c
  · rw [if_pos hj, ea j]
    exact lc_congr (fun _ _ => rfl) (fun i hi => by rw [e i j hi, if_pos hj])
  · rw [if_neg hj]
    exact (xs_zero (fun i hi => by rw [e i j hi, if_neg hj, fm_zero])).symm
/-- The list for a free column f. -/
def kv (R : Nat → Nat → Nat) (p : Nat → Nat) (k f j : Nat) : Nat := if j = f then 1 else pp p k (fun i => R i f) j
theorem kv_el {R : Nat → Nat → Nat} (hR : El2 R) (p : Nat → Nat) (k f : Nat) : El (kv R p k f) := fun j => by unfold kv; split; decide; exact pp_el p k (fun i => hR i f) j
theorem Rdf.kv {R : Nat → Nat → Nat} (hR : El2 R) {r k c f : Nat} {p : Nat → Nat} (h : Rdf R r k p) (hc : ∀ i, i < k → p i < c) (hf : pvt p k f = false) (hfc : f < c) : ∀ i, i < r → dt (R i) (kv R p k f) c = 0 := by
  intro i hi
  have e : dt (R i) (Go.Proofs.Ytflflmdlhmhkdab.kv R p k f) c = dt (R i) (fun j => dl f j ^^^ pp p k (fun i => R i f) j) c := dt_congr2 (fun j _ => by
    unfold Go.Proofs.Ytflflmdlhmhkdab.kv
    by_cases e : j = f
    · rw [if_pos e, e, dl_self, pp_free _ hf]
      rfl
    · rw [if_neg e, dl_ne e, Nat.zero_xor])
  rw [e, dt_add, dt_pp (hR i) hc]
  have e1 : dt (R i) (dl f) c = R i f := by
    unfold dt
    rw [xs_one hfc (fun j _ hne => by rw [dl_ne hne, fm_zero]), dl_self, fm_one _ (hR i f)]
  rw [e1]
  by_cases hik : i < k
  · rw [xs_one hik (fun t ht hne => by rw [h.off t i ht hi (Ne.symm hne), zero_fm]), h.one i hik, one_fm _ (hR i f), Nat.xor_self]
  · rw [h.nul i f (by omega) hi, Nat.zero_xor]
    exact xs_zero (fun t ht => by rw [h.nul i _ (by omega) hi, zero_fm])
/-- Row i is no combination of the rows above it. -/
def Fst (M : Nat → Nat → Nat) (i : Nat) : Prop := ¬ Spn M i (M i)
/-- Factors that are 0 but at such rows. -/
def OnF (M : Nat → Nat → Nat) (r : Nat) (a : Nat → Nat) : Prop := El a ∧ ∀ i, i < r → a i ≠ 0 → Fst M i
theorem fst_zero {M : Nat → Nat → Nat} (hM : El2 M) : ∀ (n : Nat) (d : Nat → Nat), OnF M n d → (∀ j, lc d M n j = 0) → ∀ i, i < n → d i = 0 := by
  intro n
  induction n with
  | zero => intro d _ _ i hi; omega
  | succ n ih =>
    intro d hd hz
    have hn : d n = 0 := Classical.byContradiction fun hne => hd.2 n (by omega) hne (by
      have hv := finv_lt (d n)
      refine (spn_mul hv ⟨d, hd.1, fun _ => rfl⟩ : Spn M n (fun j => fm (finv (d n)) (lc d M n j))).congr (fun j => ?_)
      have e : lc d M n j = fm (d n) (M n j) := xor_eq (hz j)
      rw [e, ← fm_assoc _ _ _ hv (hd.1 n), fm_comm _ _ hv (hd.1 n), fm_finv _ (hd.1 n) hne, one_fm _ (hM n j)])
    intro i hi
    by_cases e : i = n
    · rw [e]; exact hn
    · refine ih d ⟨hd.1, fun i hi => hd.2 i (by omega)⟩ (fun j => ?_) i (by omega)
      have : lc d M n j = fm (d n) (M n j) := xor_eq (hz j)
      rw [this, hn, zero_fm]
/-- There is just one list of factors for each combination. -/
theorem fst_unique {M : Nat → Nat → Nat} (hM : El2 M) {r : Nat} {a b : Nat → Nat} (ha : OnF M r a) (hb : OnF M r b) (h : ∀ j, lc a M r j = lc b M r j) : ∀ i, i < r → a i = b i := by
  intro i hi
  refine xor_eq (fst_zero hM r (fun i => a i ^^^ b i) ⟨fun i => xor_lt _ _ (ha.1 i) (hb.1 i), fun i hi hne => ?_⟩ (fun j => by rw [lc_add ha.1 hb.1, h j, Nat.xor_self]) i hi)
  by_cases e : a i = 0
  · refine hb.2 i hi (fun e2 => hne ?_)
    show a i ^^^ b i = 0
    rw [e, e2]; rfl
  · exact ha.2 i hi e
/-- Each combination has one. -/
theorem fst_ex {M : Nat → Nat → Nat} : ∀ (r : Nat) (y : Nat → Nat), Spn M r y → ∃ a, OnF M r a ∧ ∀ j, y j = lc a M r j := by
  intro r
  induction r with
  | zero =>
    rintro y ⟨a, ha, e⟩
    exact ⟨a, ⟨ha, fun i hi => by omega⟩, e⟩
  | succ r ih =>
    rintro y ⟨a, ha, e⟩
    by_cases hf : Spn M r (M r)
    · have hy : Spn M r y := (spn_add ⟨a, ha, fun _ => rfl⟩ (spn_mul (ha r) hf) : Spn M r (fun j => lc a M r j ^^^ fm (a r) (M r j))).congr (fun j => e j)
      obtain ⟨b, hb, eb⟩ := ih y hy
      refine ⟨fun i => if i < r then b i else 0, ⟨fun i => ite_lt _ _ (hb.1 i), fun i hi hne => ?_⟩, fun j => ?_⟩
      · have hne : (if i < r then b i else 0) ≠ 0 := hne
        by_cases h : i < r
        · rw [if_pos h] at hne; exact hb.2 i h hne
        · rw [if_neg h] at hne; exact absurd rfl hne
      · rw [eb j]
        show _ = xs (fun i => fm (if i < r then b i else 0) (M i j)) r ^^^ fm (if r < r then b r else 0) (M r j)
        rw [if_neg (by omega), zero_fm, Nat.xor_zero]
        exact xs_congr (fun i hi => by rw [if_pos hi])
    · obtain ⟨b, hb, eb⟩ := ih (lc a M r) ⟨a, ha, fun _ => rfl⟩
      refine ⟨fun i => if i < r then b i else a i, ⟨fun i => ?_, fun i hi hne => ?_⟩, fun j => ?_⟩
      · show (if i < r then b i else a i) < 256
        split
        · exact hb.1 i
        · exact ha i
      · have hne : (if i < r then b i else a i) ≠ 0 := hne
        by_cases h : i < r
        · rw [if_pos h] at hne; exact hb.2 i h hne
        · have : i = r := by omega
          rw [this]; exact hf
      · rw [e j]
        show lc a M r j ^^^ fm (a r) (M r j) = xs (fun i => fm (if i < r then b i else a i) (M i j)) r ^^^ fm (if r < r then b r else a r) (M r j)
        rw [if_neg (by omega), eb j]
        congr 1
        exact xs_congr (fun i hi => by rw [if_pos hi])
/-- Reduced, square and of full rank: the identity. -/
theorem Rdf.full {R : Nat → Nat → Nat} {n : Nat} {p : Nat → Nat} (h : Rdf R n n p) (hc : ∀ i, i < n → p i < n) : ∀ i j, i < n → j < n → R i j = dl i j := by
  have hp := same_seq (p := p) (q := fun i => i) (k := n) (l := n) h.up (fun i t hi _ => hi) (fun i hi => ⟨p i, hc i hi, rfl⟩) (fun j hj => by
    have e := (cnt_pvt h.up hc).1
    have h2 := cnt_not (pvt p n) n
    cases hv : pvt p n j with
    | true =>
      obtain ⟨i, hi, e⟩ := (pvt_iff p n j).1 hv
      exact ⟨i, hi, e.symm⟩
    | false =>
      have := cnt_lt (P := fun j => !pvt p n j) hj (by simp [hv])
      omega)
  intro i j hi hj
  by_cases e : j = i
  · subst e
    rw [dl_self]
    have := h.one j hj
    rwa [hp.2 j hj] at this
  · rw [dl_ne e]
    have := h.off j i hj hi (fun e2 => e e2.symm)
    rwa [hp.2 j hj] at this
/-- A left inverse and a right one are the same. -/
theorem inv_same {X M Y : Nat → Nat → Nat} (hX : El2 X) (hM : El2 M) (hY : El2 Y) {n : Nat} (h1 : ∀ i j, i < n → j < n → pr X M n i j = dl i j) (h2 : ∀ i j, i < n → j < n → pr M Y n i j = dl i j) : ∀ i j, i < n → j < n → X i j = Y i j := by
  intro i j hi hj
  have e1 : lc (X i) (fun t j => lc (M t) Y n j) n j = X i j := by
    have : lc (X i) (fun t j => lc (M t) Y n j) n j = xs (fun t => fm (X i t) (dl t j)) n := xs_congr (fun t ht => by
      show fm (X i t) (pr M Y n t j) = _
      rw [h2 t j ht hj])
    rw [this, xs_one hj (fun t _ hne => by rw [dl_ne (Ne.symm hne), fm_zero]), dl_self, fm_one _ (hX i j)]
  have e2 : lc (X i) (fun t j => lc (M t) Y n j) n j = Y i j := by
    rw [lc_lc (hX i) hM]
    have : lc (fun t => lc (X i) M n t) Y n j = lc (dl i) Y n j := lc_congr (fun t ht => by
      show pr X M n i t = _
      rw [h1 i t hi ht]) (fun _ _ => rfl)
    rw [this, lc_dl hY hi]
  rw [← e1, e2]
end Go.Proofs.Ytflflmdlhmhkdab

namespace Go.Proofs.Ytflflmdlhmhkdab
theorem dm1 {s b t : Nat} (h : t < b) : (s * b + t) / b = s := by rw [Nat.mul_comm, Nat.mul_add_div (by omega), Nat.div_eq_of_lt h, Nat.add_zero]
theorem dm2 {s b t : Nat} (h : t < b) : (s * b + t) % b = t := by rw [Nat.mul_comm, Nat.mul_add_mod, Nat.mod_eq_of_lt h]
/-- The matrix of r rows and c columns that a list holds; 0 besides. -/
def m2 (F : Nat → Nat) (r c i j : Nat) : Nat := if i < r ∧ j < c then F (i * c + j) else 0
theorem m2_at (F : Nat → Nat) {r c i j : Nat} (hi : i < r) (hj : j < c) : m2 F r c i j = F (i * c + j) := if_pos ⟨hi, hj⟩
theorem m2_cut (F : Nat → Nat) {r c i j : Nat} (hj : c ≤ j) : m2 F r c i j = 0 := if_neg (by omega)
theorem m2_low (F : Nat → Nat) {r c i j : Nat} (hi : r ≤ i) : m2 F r c i j = 0 := if_neg (by omega)
theorem m2_el {F : Nat → Nat} {r c n : Nat} (hF : ∀ p, p < n → F p < 256) (R : Rt r c n) : El2 (m2 F r c) := fun i j => by
  unfold m2
  split
  · rename_i h; exact hF _ (R.at h.1 h.2)
  · decide
theorem m2_congr {F G : Nat → Nat} {r c n : Nat} (R : Rt r c n) (h : ∀ p, p < n → F p = G p) (i j : Nat) : m2 F r c i j = m2 G r c i j := by
  unfold m2
  split
  · rename_i e; exact h _ (R.at e.1 e.2)
  · rfl
/-- Two places changed. -/
def zsw (a b k : Nat) : Nat := if k = a then b else if k = b then a else k
theorem zsw_lt {a b r k : Nat} (ha : a < r) (hb : b < r) (hk : k < r) : zsw a b k < r := by unfold zsw; split; exact hb; split; exact ha; exact hk
theorem m2_pick (F : Nat → Nat) {r c a b : Nat} (ha : a < r) (hb : b < r) : ∀ t l, t < r → m2 (pkf F (zsw a b) c) r c t l = swp (m2 F r c) a b t l := by
  intro t l ht
  by_cases hl : l < c
  · rw [m2_at _ ht hl, pkf_at _ _ _ _ _ hl, ← m2_at F (zsw_lt ha hb ht) hl]
    unfold zsw swp
    split
    · rfl
    · split <;> rfl
  · rw [m2_cut _ (by omega)]
    unfold swp
    rw [m2_cut _ (by omega), m2_cut _ (by omega), m2_cut _ (by omega)]
    split
    · rfl
    · split <;> rfl
theorem m2_cpf (F h : Nat → Nat) {r c top d : Nat} (hh : ∀ l, l < c → h l = fm d (F (top * c + l))) (ht : top < r) : ∀ t l, t < r → m2 (cpf F h (top * c) c) r c t l = rw1 (m2 F r c) top (fun l => fm d (m2 F r c top l)) t l := by
  intro t l htr
  by_cases hl : l < c
  · rw [m2_at _ htr hl]
    unfold cpf rw1
    by_cases e : t = top
    · subst e
      rw [if_pos ⟨by omega, by omega⟩, if_pos rfl, Nat.add_sub_cancel_left, hh l hl]
      show _ = fm d (m2 F r c t l)
      rw [m2_at _ ht hl]
    · rw [if_neg e, m2_at _ htr hl]
      have : ¬ (top * c ≤ t * c + l ∧ t * c + l < top * c + c) := by
        rintro ⟨h1, h2⟩
        rcases Nat.lt_or_gt_of_ne e with hlt | hgt
        · have : (t + 1) * c ≤ top * c := Nat.mul_le_mul_right c hlt
          rw [Nat.add_mul, Nat.one_mul] at this
          omega
        · have : (top + 1) * c ≤ t * c := Nat.mul_le_mul_right c hgt
          rw [Nat.add_mul, Nat.one_mul] at this
          omega
      rw [if_neg this]
  · rw [m2_cut _ (by omega)]
    unfold rw1
    split
    · show 0 = fm d (m2 F r c top l)
      rw [m2_cut _ (by omega), fm_zero]
    · rw [m2_cut _ (by omega)]
/-- Of all rows but row top, as far as place q, so much of R is taken off that column col is 0. -/
def elf (F R : Nat → Nat) (c top col q p : Nat) : Nat := if p < q ∧ p / c ≠ top then F p ^^^ fm (F (p / c * c + col)) (R (p % c)) else F p
theorem elf_zero (F R : Nat → Nat) (c top col p : Nat) : elf F R c top col 0 p = F p := if_neg (by omega)
theorem elf_here (F R : Nat → Nat) (c top col q p : Nat) (h : q ≤ p) : elf F R c top col q p = F p := if_neg (by omega)
theorem elf_step (F R : Nat → Nat) {c top col k l : Nat} (hl : l < c) (hk : k ≠ top) (p : Nat) : (if p = k * c + l then F (k * c + l) ^^^ fm (F (k * c + col)) (R l) else elf F R c top col (k * c + l) p) = elf F R c top col (k * c + l + 1) p := by
  unfold elf
  by_cases e : p = k * c + l
  · subst e
    rw [if_pos rfl, if_pos ⟨by omega, by rw [dm1 hl]; exact hk⟩, dm1 hl, dm2 hl]
  · rw [if_neg e]
    by_cases h : p < k * c + l ∧ p / c ≠ top
    · rw [if_pos h, if_pos ⟨by omega, h.2⟩]
    · rw [if_neg h, if_neg (fun h2 => h ⟨by omega, h2.2⟩)]
theorem elf_skip (F R : Nat → Nat) (c top col p : Nat) : elf F R c top col (top * c) p = elf F R c top col ((top + 1) * c) p := by
  unfold elf
  by_cases e : p / c = top
  · rw [if_neg (fun h => h.2 e), if_neg (fun h => h.2 e)]
  · by_cases h : p < top * c
    · rw [if_pos ⟨h, e⟩, if_pos ⟨Nat.lt_of_lt_of_le h (Nat.mul_le_mul_right c (by omega)), e⟩]
    · rw [if_neg (fun h2 => h h2.1), if_neg (fun h2 => e ?_)]
      have hc : 0 < c := by
        rcases Nat.eq_zero_or_pos c with rfl | hc
        · omega
        · exact hc
      have h1 : top ≤ p / c := (Nat.le_div_iff_mul_le hc).2 (by omega)
      have h3 : p / c < top + 1 := (Nat.div_lt_iff_lt_mul hc).2 h2.1
      omega
theorem m2_elf (F R : Nat → Nat) {r c top col : Nat} (hR : ∀ l, l < c → R l = F (top * c + l)) (ht : top < r) (hcol : col < c) : ∀ i l, i < r → m2 (elf F R c top col (r * c)) r c i l = clr (m2 F r c) top col i l := by
  intro i l hi
  by_cases hl : l < c
  · have hlt : i * c + l < r * c := by
      have : (i + 1) * c ≤ r * c := Nat.mul_le_mul_right c hi
      rw [Nat.add_mul, Nat.one_mul] at this
      omega
    rw [m2_at _ hi hl]
    unfold elf clr
    rw [dm1 hl, dm2 hl]
    by_cases e : i = top
    · rw [if_neg (fun h => h.2 e), if_pos e, e, m2_at _ ht hl]
    · rw [if_pos ⟨hlt, e⟩, if_neg e, m2_at _ hi hl, m2_at _ hi hcol, m2_at _ ht hl, hR l hl]
  · rw [m2_cut _ (by omega)]
    unfold clr
    rw [m2_cut _ (by omega), m2_cut _ (by omega)]
    split
    · rfl
    · rw [fm_zero]; rfl
theorem clr_congr {M N : Nat → Nat → Nat} {r top col : Nat} (ht : top < r) (e : ∀ i l, i < r → M i l = N i l) : ∀ i l, i < r → clr M top col i l = clr N top col i l := by
  intro i l hi
  unfold clr
  rw [e top l ht, e i l hi, e i col hi]
theorem rw1_congr {M N : Nat → Nat → Nat} {r top d : Nat} (ht : top < r) (e : ∀ i l, i < r → M i l = N i l) : ∀ i l, i < r → rw1 M top (fun l => fm d (M top l)) i l = rw1 N top (fun l => fm d (N top l)) i l := by
  intro i l hi
  unfold rw1
  split
  · show fm d (M top l) = fm d (N top l)
    rw [e top l ht]
  · exact e i l hi
/-- A round with a pivot in row i: rows exchanged, the row divided, and taken off all others. -/
theorem elm_round {F h : Nat → Nat} {r c n top i j d : Nat} {p : Nat → Nat} {M : Nat → Nat → Nat} (hF : ∀ p, p < n → F p < 256) (R : Rt r c n) (E : Elm (m2 F r c) r top j p) (S : SpEq (m2 F r c) r M r) (hi : top ≤ i) (hir : i < r) (hj : j < c) (hne : F (i * c + j) ≠ 0)
    (hd : d = finv (F (i * c + j))) (hh : ∀ l, l < c → h l = fm d (pkf F (zsw top i) c (top * c + l))) :
    Elm (m2 (elf (cpf (pkf F (zsw top i) c) h (top * c) c) h c top j (r * c)) r c) r (top + 1) (j + 1) (fun t => if t = top then j else p t) ∧ SpEq (m2 (elf (cpf (pkf F (zsw top i) c) h (top * c) c) h c top j (r * c)) r c) r M r := by
  have htr : top < r := by omega
  have hd2 : d < 256 := by rw [hd]; exact finv_lt _
  have hE0 := m2_el hF R
  obtain ⟨N1, eN1⟩ : ∃ N, N = swp (m2 F r c) top i := ⟨_, rfl⟩
  have hN1 : El2 N1 := by rw [eN1]; exact swp_el hE0 _ _
  have E1 : Elm N1 r top j p := by rw [eN1]; exact E.swp (by omega) hi htr hir
  have S1 : SpEq N1 r M r := by rw [eN1]; exact (spEq_swp hE0 htr hir).trans S
  have v1 : N1 top j = F (i * c + j) := by
    rw [eN1]; unfold swp; rw [if_pos rfl, m2_at _ hir hj]
  obtain ⟨N2, eN2⟩ : ∃ N, N = rw1 N1 top (fun l => fm d (N1 top l)) := ⟨_, rfl⟩
  have hN2 : El2 N2 := by rw [eN2]; exact rw1_el hN1 (fun l => fm_lt _ _ hd2) _
  have hd0 : d ≠ 0 := fun e => by
    have := fm_finv _ (hF _ (R.at hir hj)) hne
    rw [← hd, e, fm_zero] at this
    cases this
  have E2 : Elm N2 r top j p := by rw [eN2]; exact E1.scale (by omega) htr
  have S2 : SpEq N2 r M r := by rw [eN2]; exact (spEq_scale hN1 htr hd2 hd0).trans S1
  have v2 : N2 top j = 1 := by
    rw [eN2, rw1_at, v1, hd, fm_comm _ _ (finv_lt _) (hF _ (R.at hir hj)), fm_finv _ (hF _ (R.at hir hj)) hne]
  have E3 := E2.step hN2 htr v2
  have S3 := (spEq_clr hN2 htr j).trans S2
  have key : ∀ t l, t < r → m2 (elf (cpf (pkf F (zsw top i) c) h (top * c) c) h c top j (r * c)) r c t l = clr N2 top j t l := by
    intro t l ht
    rw [m2_elf _ h (fun l hl => ?_) htr hj t l ht]
    · refine clr_congr htr (fun t l ht => ?_) t l ht
      rw [m2_cpf _ h hh htr t l ht, eN2]
      exact rw1_congr htr (fun t l ht => by rw [m2_pick F htr hir t l ht, eN1]) t l ht
    · unfold cpf
      rw [if_pos ⟨by omega, by omega⟩, Nat.add_sub_cancel_left]
  exact ⟨E3.rows key, S3.rows key⟩
end Go.Proofs.Ytflflmdlhmhkdab

namespace Go.Proofs.Ytflflmdlhmhkdab
open Go.RowKit
/-- To the rows from a to ahead of b so much of row t is put that column j is 0. -/
def clu (M : Nat → Nat → Nat) (t j a b i l : Nat) : Nat := if a ≤ i ∧ i < b then M i l ^^^ fm (M i j) (M t l) else M i l
theorem clu_out (M : Nat → Nat → Nat) {t j a b i : Nat} (l : Nat) (h : ¬ (a ≤ i ∧ i < b)) : clu M t j a b i l = M i l := if_neg h
theorem clu_in (M : Nat → Nat → Nat) {t j a b i : Nat} (l : Nat) (h : a ≤ i ∧ i < b) : clu M t j a b i l = M i l ^^^ fm (M i j) (M t l) := if_pos h
theorem clu_el {M : Nat → Nat → Nat} (hM : El2 M) (t j a b : Nat) : El2 (clu M t j a b) := fun i l => by unfold clu; split; exact xor_lt _ _ (hM _ _) (fm_lt _ _ (hM _ _)); exact hM _ _
theorem clu_none (M : Nat → Nat → Nat) (t j a i l : Nat) : clu M t j a a i l = M i l := if_neg (by omega)
/-- A multiple of row t is put to row s. -/
def ad1 (M : Nat → Nat → Nat) (s c t i l : Nat) : Nat := rw1 M s (fun l => M s l ^^^ fm c (M t l)) i l
theorem ad1_el {M : Nat → Nat → Nat} (hM : El2 M) {s c t : Nat} (hc : c < 256) : El2 (ad1 M s c t) := fun i j => rw1_el hM (fun _ => xor_lt _ _ (hM _ _) (fm_lt _ _ hc)) s i j
/-- A row is multiplied. -/
def mu1 (M : Nat → Nat → Nat) (t c i l : Nat) : Nat := rw1 M t (fun l => fm c (M t l)) i l
theorem mu1_el {M : Nat → Nat → Nat} (hM : El2 M) {t c : Nat} (hc : c < 256) : El2 (mu1 M t c) := fun i j => rw1_el hM (fun _ => fm_lt _ _ hc) t i j
theorem clu_step (M : Nat → Nat → Nat) {t j a b : Nat} (hab : a ≤ b) (ht : ¬ (a ≤ t ∧ t < b)) (i l : Nat) : ad1 (clu M t j a b) b (M b j) t i l = clu M t j a (b + 1) i l := by
  unfold ad1 rw1
  by_cases e : i = b
  · subst e
    rw [if_pos rfl]
    show clu M t j a i i l ^^^ fm (M i j) (clu M t j a i t l) = _
    rw [clu_out (i := i) M l (by omega), clu_out (i := t) M l ht, clu_in M l ⟨hab, by omega⟩]
  · rw [if_neg e]
    unfold clu
    by_cases h : a ≤ i ∧ i < b
    · rw [if_pos h, if_pos (by omega)]
    · rw [if_neg h, if_neg (by omega)]
theorem clu_same (M : Nat → Nat → Nat) {t j a b : Nat} (hab : a ≤ b) (h0 : M b j = 0) (i l : Nat) : clu M t j a b i l = clu M t j a (b + 1) i l := by
  unfold clu
  by_cases h : a ≤ i ∧ i < b
  · rw [if_pos h, if_pos (by omega)]
  · rw [if_neg h]
    by_cases e : i = b
    · subst e
      rw [if_pos (by omega), h0, zero_fm, Nat.xor_zero]
    · rw [if_neg (by omega)]
theorem spEq_clu {M : Nat → Nat → Nat} (hM : El2 M) {r t a b : Nat} (ht : t < r) (hout : ¬ (a ≤ t ∧ t < b)) (j : Nat) : SpEq (clu M t j a b) r M r := by
  have hE := clu_el hM t j a b
  have et : ∀ l, clu M t j a b t l = M t l := fun l => clu_out M l hout
  refine ⟨fun i hi => ?_, fun i hi => ?_⟩
  · by_cases e : a ≤ i ∧ i < b
    · exact (spn_add (spn_row hM hi) (spn_mul (hM i j) (spn_row hM ht))).congr (fun l => clu_in M l e)
    · exact (spn_row hM hi).congr (fun l => clu_out M l e)
  · by_cases e : a ≤ i ∧ i < b
    · refine (spn_add (spn_row hE hi) (spn_mul (hM i j) (spn_row hE ht))).congr (fun l => ?_)
      rw [et l, clu_in M l e, Nat.xor_assoc, Nat.xor_self, Nat.xor_zero]
    · exact (spn_row hE hi).congr (fun l => (clu_out M l e).symm)
/-- The columns below j are swept downwards: top pivots so far. -/
structure Ech (M : Nat → Nat → Nat) (r top j : Nat) (p : Nat → Nat) : Prop where
  tr : top ≤ r
  up : ∀ i t, i < t → t < top → p i < p t
  lt : ∀ i, i < top → p i < j
  one : ∀ i, i < top → M i (p i) = 1
  low : ∀ i l, i < top → l < p i → M i l = 0
  nul : ∀ i l, top ≤ i → i < r → l < j → M i l = 0
theorem ech_zero (M : Nat → Nat → Nat) (r : Nat) (p : Nat → Nat) : Ech M r 0 0 p := ⟨by omega, fun _ _ _ h => by omega, fun _ h => by omega, fun _ h => by omega, fun _ _ h => by omega, fun _ _ _ _ h => by omega⟩
theorem Ech.rows {M N : Nat → Nat → Nat} {r top j : Nat} {p : Nat → Nat} (h : Ech M r top j p) (e : ∀ i l, i < r → N i l = M i l) : Ech N r top j p := by
  have ht := h.tr
  exact ⟨ht, h.up, h.lt, fun i hi => by rw [e i _ (by omega)]; exact h.one i hi, fun i l hi hl => by rw [e i _ (by omega)]; exact h.low i l hi hl, fun i l h1 h2 h3 => by rw [e i _ h2]; exact h.nul i l h1 h2 h3⟩
theorem Ech.skip {M : Nat → Nat → Nat} {r top j : Nat} {p : Nat → Nat} (h : Ech M r top j p) (h0 : ∀ i, top ≤ i → i < r → M i j = 0) : Ech M r top (j + 1) p :=
  ⟨h.tr, h.up, fun i hi => by have := h.lt i hi; omega, h.one, h.low, fun i l h1 h2 h3 => by
    by_cases e : l = j
    · rw [e]; exact h0 i h1 h2
    · exact h.nul i l h1 h2 (by omega)⟩
/-- Several columns more. -/
theorem Ech.skips {M : Nat → Nat → Nat} {r top j j' : Nat} {p : Nat → Nat} (h : Ech M r top j p) (hj : j ≤ j') (h0 : ∀ i l, top ≤ i → i < r → j ≤ l → l < j' → M i l = 0) : Ech M r top j' p :=
  ⟨h.tr, h.up, fun i hi => by have := h.lt i hi; omega, h.one, h.low, fun i l h1 h2 h3 => by
    by_cases e : l < j
    · exact h.nul i l h1 h2 e
    · exact h0 i l h1 h2 (by omega) h3⟩
theorem Ech.swp {M : Nat → Nat → Nat} {r top j a b : Nat} {p : Nat → Nat} (h : Ech M r top j p) (ha : top ≤ a) (hb : top ≤ b) (har : a < r) (hbr : b < r) : Ech (swp M a b) r top j p := by
  have e : ∀ i l, i < top → Go.Proofs.Ytflflmdlhmhkdab.swp M a b i l = M i l := fun i l hi => by unfold Go.Proofs.Ytflflmdlhmhkdab.swp; rw [if_neg (by omega), if_neg (by omega)]
  refine ⟨h.tr, h.up, h.lt, fun i hi => by rw [e i _ hi]; exact h.one i hi, fun i l hi hl => by rw [e i _ hi]; exact h.low i l hi hl, fun i l h1 h2 h3 => ?_⟩
  unfold Go.Proofs.Ytflflmdlhmhkdab.swp
  split
  · exact h.nul b l hb hbr h3
  · split
    · exact h.nul a l ha har h3
    · exact h.nul i l h1 h2 h3
theorem Ech.scale {M : Nat → Nat → Nat} {r top j a c : Nat} {p : Nat → Nat} (h : Ech M r top j p) (ha : top ≤ a) : Ech (mu1 M a c) r top j p := by
  have e : ∀ i l, i < top → mu1 M a c i l = M i l := fun i l hi => rw1_ne M _ l (by omega)
  refine ⟨h.tr, h.up, h.lt, fun i hi => by rw [e i _ hi]; exact h.one i hi, fun i l hi hl => by rw [e i _ hi]; exact h.low i l hi hl, fun i l h1 h2 h3 => ?_⟩
  unfold mu1 rw1
  split
  · rename_i e1; subst e1; show fm c (M i l) = 0; rw [h.nul i l h1 h2 h3, fm_zero]
  · exact h.nul i l h1 h2 h3
/-- One pivot more. -/
theorem Ech.step {M : Nat → Nat → Nat} (hM : El2 M) {r top j : Nat} {p : Nat → Nat} (h : Ech M r top j p) (ht : top < r) (h1 : M top j = 1) : Ech (clu M top j (top + 1) r) r (top + 1) (j + 1) (fun i => if i = top then j else p i) := by
  have e : ∀ i l, i ≤ top → clu M top j (top + 1) r i l = M i l := fun i l hi => clu_out M l (by omega)
  refine ⟨by omega, fun i t h1 h2 => ?_, fun i hi => ?_, fun i hi => ?_, fun i l hi hl => ?_, fun i l h2 h3 h4 => ?_⟩
  · show (if i = top then j else p i) < (if t = top then j else p t)
    rw [if_neg (by omega)]
    split
    · exact h.lt i (by omega)
    · exact h.up i t h1 (by omega)
  · show (if i = top then j else p i) < j + 1
    split
    · omega
    · have := h.lt i (by omega); omega
  · rw [e i _ (by omega)]
    show M i (if i = top then j else p i) = 1
    split
    · rename_i e1; rw [e1]; exact h1
    · exact h.one i (by omega)
  · rw [e i _ (by omega)]
    have hl' : l < (if i = top then j else p i) := hl
    split at hl'
    · rename_i e1; rw [e1]; exact h.nul top l (by omega) ht hl'
    · exact h.low i l (by omega) hl'
  · rw [clu_in M l ⟨h2, h3⟩]
    by_cases e1 : l = j
    · rw [e1, h1, fm_one _ (hM i j), Nat.xor_self]
    · rw [h.nul i l (by omega) h3 (by omega), h.nul top l (by omega) ht (by omega), fm_zero]; rfl
/-- Swept upwards too, as far as pivot at. -/
structure Asc (M : Nat → Nat → Nat) (r top c : Nat) (p : Nat → Nat) (at' : Nat) : Prop where
  ech : Ech M r top c p
  off : ∀ s t, at' ≤ s → s < top → t < s → M t (p s) = 0
theorem Ech.asc {M : Nat → Nat → Nat} {r top c : Nat} {p : Nat → Nat} (h : Ech M r top c p) {a : Nat} (ha : top ≤ a) : Asc M r top c p a := ⟨h, fun s t h1 h2 => by omega⟩
theorem Asc.rows {M N : Nat → Nat → Nat} {r top c a : Nat} {p : Nat → Nat} (h : Asc M r top c p a) (e : ∀ i l, i < r → N i l = M i l) : Asc N r top c p a := by
  have ht := h.ech.tr
  exact ⟨h.ech.rows e, fun s t h1 h2 h3 => by rw [e t _ (by omega)]; exact h.off s t h1 h2 h3⟩
theorem Asc.one {M : Nat → Nat → Nat} {r top c : Nat} {p : Nat → Nat} (h : Asc M r top c p 1) : Asc M r top c p 0 := ⟨h.ech, fun s t h1 h2 h3 => h.off s t (by omega) h2 h3⟩
/-- Below a pivot all is 0. -/
theorem Ech.under {M : Nat → Nat → Nat} {r top c : Nat} {p : Nat → Nat} (h : Ech M r top c p) {s t : Nat} (hs : s < top) (hst : s < t) (ht : t < r) : M t (p s) = 0 := by
  by_cases e : t < top
  · exact h.low t _ e (h.up s t hst e)
  · exact h.nul t _ (by omega) ht (h.lt s hs)
theorem Asc.step {M : Nat → Nat → Nat} (hM : El2 M) {r top c a : Nat} {p : Nat → Nat} (h : Asc M r top c p (a + 1)) (ha : a < top) : Asc (clu M a (p a) 0 a) r top c p a := by
  have E := h.ech
  have ht := E.tr
  have hz : ∀ i, i < a → ∀ l, l < p a → clu M a (p a) 0 a i l = M i l := fun i hi l hl => by rw [clu_in M l ⟨by omega, hi⟩, E.low a l ha hl, fm_zero, Nat.xor_zero]
  refine ⟨⟨ht, E.up, E.lt, fun i hi => ?_, fun i l hi hl => ?_, fun i l h1 h2 h3 => ?_⟩, fun s t h1 h2 h3 => ?_⟩
  · by_cases e : i < a
    · rw [hz i e _ (E.up i a e ha)]; exact E.one i hi
    · rw [clu_out M _ (by omega)]; exact E.one i hi
  · by_cases e : i < a
    · rw [hz i e l (Nat.lt_trans hl (E.up i a e ha))]; exact E.low i l hi hl
    · rw [clu_out M _ (by omega)]; exact E.low i l hi hl
  · rw [clu_out M _ (by omega)]; exact E.nul i l h1 h2 h3
  · by_cases e : s = a
    · subst e
      rw [clu_in M _ ⟨by omega, h3⟩, E.one s h2, fm_one _ (hM t _), Nat.xor_self]
    · by_cases e2 : t < a
      · rw [clu_in M _ ⟨by omega, e2⟩, h.off s t (by omega) h2 h3, h.off s a (by omega) h2 (by omega), fm_zero]; rfl
      · rw [clu_out M _ (by omega)]; exact h.off s t (by omega) h2 h3
/-- The first c columns. -/
def ct (M : Nat → Nat → Nat) (c i l : Nat) : Nat := if l < c then M i l else 0
theorem ct_el {M : Nat → Nat → Nat} (hM : El2 M) (c : Nat) : El2 (ct M c) := fun i l => by unfold ct; split; exact hM _ _; decide
theorem ct_at (M : Nat → Nat → Nat) {c l : Nat} (i : Nat) (h : l < c) : ct M c i l = M i l := if_pos h
theorem ct_cut (M : Nat → Nat → Nat) {c l : Nat} (i : Nat) (h : c ≤ l) : ct M c i l = 0 := if_neg (by omega)
theorem Asc.rdf {M : Nat → Nat → Nat} {r top c : Nat} {p : Nat → Nat} (h : Asc M r top c p 0) : Rdf (ct M c) r top p := by
  have E := h.ech
  have hl : ∀ i, i < top → ∀ l, l ≤ p i → ct M c = ct M c ∧ l < c := fun i hi l hl => ⟨rfl, by have := E.lt i hi; omega⟩
  refine ⟨E.tr, E.up, fun i hi => by rw [ct_at M _ (E.lt i hi)]; exact E.one i hi, fun i t hi ht hne => ?_, fun i l hi hl' => by rw [ct_at M _ (hl i hi l (by omega)).2]; exact E.low i l hi hl', fun i l h1 h2 => ?_⟩
  · rw [ct_at M _ (E.lt i hi)]
    by_cases e : t < i
    · exact h.off i t (by omega) hi e
    · exact E.under hi (by omega) ht
  · by_cases e : l < c
    · rw [ct_at M _ e]; exact E.nul i l h1 h2 e
    · exact ct_cut M _ (by omega)
theorem Le.ct {M N : Nat → Nat → Nat} {r s : Nat} (h : Le M r N s) (c : Nat) : Le (ct M c) r (ct N c) s := fun i hi => (h i hi).first (c := c) (fun _ _ _ => rfl) (fun _ => rfl)
theorem SpEq.ct {M N : Nat → Nat → Nat} {r s : Nat} (h : SpEq M r N s) (c : Nat) : SpEq (ct M c) r (ct N c) s := ⟨h.1.ct c, h.2.ct c⟩
/-- What is swept downwards can be swept upwards. -/
theorem Ech.ex {M : Nat → Nat → Nat} (hM : El2 M) {r top c : Nat} {p : Nat → Nat} (h : Ech M r top c p) : ∃ N, El2 N ∧ Asc N r top c p 0 ∧ SpEq N r M r := by
  have key : ∀ d, d ≤ top → ∃ N, El2 N ∧ Asc N r top c p (top - d) ∧ SpEq N r M r := by
    intro d
    induction d with
    | zero => exact fun _ => ⟨M, hM, h.asc (by omega), SpEq.refl hM r⟩
    | succ d ih =>
      intro hd
      obtain ⟨N, hN, hA, hS⟩ := ih (by omega)
      obtain ⟨a, ha⟩ : ∃ a, top - d = a + 1 := ⟨top - d - 1, by omega⟩
      rw [ha] at hA
      have htr := h.tr
      rw [show top - (d + 1) = a by omega]
      exact ⟨_, clu_el hN _ _ _ _, hA.step hN (by omega), (spEq_clu hN (by omega) (by omega) _).trans hS⟩
  have := key top (Nat.le_refl _)
  rwa [Nat.sub_self] at this
/-- Its rank. -/
theorem Ech.rk {M : Nat → Nat → Nat} (hM : El2 M) {r top c : Nat} {p : Nat → Nat} (h : Ech M r top c p) : Rk (ct M c) r top := by
  obtain ⟨N, hN, hA, hS⟩ := h.ex hM
  exact ((hA.rdf).rk (ct_el hN c)).span (hS.ct c)
end Go.Proofs.Ytflflmdlhmhkdab
