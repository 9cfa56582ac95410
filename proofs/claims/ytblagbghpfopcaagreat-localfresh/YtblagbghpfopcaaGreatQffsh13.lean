/-
  What is done to rows: the combinations stay. Elimination, column by column.
  Ranks of a matrix transposed and of products; counting pivot columns and free ones.
  What a reduced form tells: what is sent to a list, what is sent to nothing, rows that are no combinations of those above, inverses.
-/
import Derived.Test.YtblagbghpfopcaaGreatQffsh00
import Derived.Test.YtblagbghpfopcaaGreatQffsh12
set_option maxRecDepth 100000
set_option maxHeartbeats 16000000
namespace Go.Proofs.YtblagbghpfopcaaGreat
/-- Row t is another one. -/
def rw1 (M : Nat → Nat → Nat) (t : Nat) (v : Nat → Nat) (i j : Nat) : Nat := if i = t then v j else M i j
theorem qff (M : Nat → Nat → Nat) (t : Nat) (v : Nat → Nat) (j : Nat) : rw1 M t v t j = v j := if_pos rfl
theorem qic (M : Nat → Nat → Nat) {t i : Nat} (v : Nat → Nat) (j : Nat) (h : i ≠ t) : rw1 M t v i j = M i j := if_neg h
theorem qid {M : Nat → Nat → Nat} (hM : El2 M) {v : Nat → Nat} (hv : El v) (t : Nat) : El2 (rw1 M t v) := fun i j => by unfold rw1; split; exact hv j; exact hM i j
/-- Two rows change places. -/
def swp (M : Nat → Nat → Nat) (a b i j : Nat) : Nat := if i = a then M b j else if i = b then M a j else M i j
theorem qie {M : Nat → Nat → Nat} (hM : El2 M) (a b : Nat) : El2 (swp M a b) := fun i j => by unfold swp; split; exact hM _ _; split; exact hM _ _; exact hM _ _
theorem swp_swp (M : Nat → Nat → Nat) (a b i j : Nat) : swp (swp M a b) a b i j = M i j := by
 unfold swp
 by_cases h1 : i = a
 ·subst h1
  rw [if_pos rfl]
  by_cases h2 : b = i
  ·rw [if_pos h2, h2]
  ·rw [if_neg h2, if_pos rfl]
 ·rw [if_neg h1]
  by_cases h2 : i = b
  ·subst h2
   rw [if_pos rfl, if_pos rfl]
  ·rw [if_neg h2, if_neg h1, if_neg h2]
theorem swp_le {M : Nat → Nat → Nat} (hM : El2 M) {r a b : Nat} (ha : a < r) (hb : b < r) : Le (swp M a b) r M r := fun i hi => by
 by_cases h1 : i = a
 ·exact (qab hM hb).congr (fun j => by unfold swp; rw [if_pos h1])
 ·by_cases h2 : i = b
  ·exact (qab hM ha).congr (fun j => by unfold swp; rw [if_neg h1, if_pos h2])
  ·exact (qab hM hi).congr (fun j => by unfold swp; rw [if_neg h1, if_neg h2])
theorem Le.rows {M N L : Nat → Nat → Nat} {s r : Nat} (h : Le N s M r) (e : ∀ i j, i < s → L i j = N i j) : Le L s M r := fun i hi => (h i hi).congr (fun j => e i j hi)
theorem Le.rows2 {M N L : Nat → Nat → Nat} {s r : Nat} (h : Le N s M r) (e : ∀ i j, i < r → M i j = L i j) : Le N s L r := fun i hi => (h i hi).rows e
theorem SpEq.rows {M N L : Nat → Nat → Nat} {s r : Nat} (h : SpEq N s M r) (e : ∀ i j, i < s → L i j = N i j) : SpEq L s M r := ⟨h.1.rows e, h.2.rows2 (fun i j hi => (e i j hi).symm)⟩
theorem qfx {M : Nat → Nat → Nat} (hM : El2 M) {r a b : Nat} (ha : a < r) (hb : b < r) : SpEq (swp M a b) r M r :=
 ⟨swp_le hM ha hb, (swp_le (qie hM a b) ha hb).rows (fun i j _ => (swp_swp M a b i j).symm)⟩
/-- A row is multiplied by what is not 0. -/
theorem qcp {M : Nat → Nat → Nat} (hM : El2 M) {r t c : Nat} (_ht : t < r) (hc : c < 256) (h0 : c ≠ 0) : SpEq (rw1 M t (fun j => fm c (M t j))) r M r := by
 have hE : El2 (rw1 M t (fun j => fm c (M t j))) := qid hM (fun j => qaq _ _ hc) t
 refine ⟨fun i hi => ?_, fun i hi => ?_⟩
 ·by_cases e : i = t
  ·subst e
   exact (qb2 hc (qab hM hi)).congr (fun j => qff _ _ _ j)
  ·exact (qab hM hi).congr (fun j => qic _ _ j e)
 ·by_cases e : i = t
  ·subst e
   refine (qb2 (qae c) (qab hE hi)).congr (fun j => ?_)
   rw [qff, ← qam _ _ _ (qae c) hc, qaf _ _ (qae c) hc, qar _ hc h0, qb7 _ (hM i j)]
  ·exact (qab hE hi).congr (fun j => (qic _ _ j e).symm)
/-- All rows but row t: so much of row t is taken off that column j is 0. -/
def clr (M : Nat → Nat → Nat) (t j i l : Nat) : Nat := if i = t then M t l else M i l ^^^ fm (M i j) (M t l)
theorem clr_el {M : Nat → Nat → Nat} (hM : El2 M) (t j : Nat) : El2 (clr M t j) := fun i l => by unfold clr; split; exact hM _ _; exact qbd _ _ (hM _ _) (qaq _ _ (hM _ _))
theorem qif {M : Nat → Nat → Nat} (hM : El2 M) {r t : Nat} (ht : t < r) (j : Nat) : SpEq (clr M t j) r M r := by
 have hE := clr_el hM t j
 have et : ∀ l, clr M t j t l = M t l := fun l => if_pos rfl
 refine ⟨fun i hi => ?_, fun i hi => ?_⟩
 ·by_cases e : i = t
  ·subst e
   exact (qab hM hi).congr et
  ·exact (qcb (qab hM hi) (qb2 (hM i j) (qab hM ht))).congr (fun l => if_neg e)
 ·by_cases e : i = t
  ·subst e
   exact (qab hE hi).congr (fun l => (et l).symm)
  ·refine (qcb (qab hE hi) (qb2 (hM i j) (qab hE ht))).congr (fun l => ?_)
   rw [et l]
   show M i l = (if i = t then M t l else M i l ^^^ fm (M i j) (M t l)) ^^^ _
   rw [if_neg e, Nat.xor_assoc, Nat.xor_self, Nat.xor_zero]
/-- The first columns, below j, are reduced: top pivots so far. -/
structure Elm (M : Nat → Nat → Nat) (r top j : Nat) (p : Nat → Nat) : Prop where
 tr : top ≤ r
 up : ∀ i t, i < t → t < top → p i < p t
 lt : ∀ i, i < top → p i < j
 one : ∀ i, i < top → M i (p i) = 1
 off : ∀ i t, i < top → t < r → t ≠ i → M t (p i) = 0
 low : ∀ i l, i < top → l < p i → M i l = 0
 nul : ∀ i l, top ≤ i → i < r → l < j → M i l = 0
theorem qig (M : Nat → Nat → Nat) (r : Nat) (p : Nat → Nat) : Elm M r 0 0 p := ⟨by omega, fun _ _ _ h => by omega, fun _ h => by omega, fun _ h => by omega, fun _ _ h => by omega, fun _ _ h => by omega, fun _ _ _ _ h => by omega⟩
theorem Elm.rows {M N : Nat → Nat → Nat} {r top j : Nat} {p : Nat → Nat} (h : Elm M r top j p) (e : ∀ i l, i < r → N i l = M i l) : Elm N r top j p := by
 have := h.tr
 exact ⟨h.tr, h.up, h.lt, fun i hi => by rw [e _ _ (by omega)]; exact h.one i hi, fun i t hi ht hne => by rw [e _ _ ht]; exact h.off i t hi ht hne, fun i l hi hl => by rw [e _ _ (by omega)]; exact h.low i l hi hl, fun i l hi hr hl => by rw [e _ _ hr]; exact h.nul i l hi hr hl⟩
theorem Elm.seq {M : Nat → Nat → Nat} {r top j : Nat} {p q : Nat → Nat} (h : Elm M r top j p) (e : ∀ i, i < top → q i = p i) : Elm M r top j q :=
 ⟨h.tr, fun i t hi ht => by rw [e i (by omega), e t ht]; exact h.up i t hi ht, fun i hi => by rw [e i hi]; exact h.lt i hi, fun i hi => by rw [e i hi]; exact h.one i hi, fun i t hi ht hne => by rw [e i hi]; exact h.off i t hi ht hne, fun i l hi hl => by rw [e i hi] at hl; exact h.low i l hi hl, h.nul⟩
theorem Elm.skip {M : Nat → Nat → Nat} {r top j : Nat} {p : Nat → Nat} (h : Elm M r top j p) (h0 : ∀ i, top ≤ i → i < r → M i j = 0) : Elm M r top (j + 1) p :=
 ⟨h.tr, h.up, fun i hi => by have := h.lt i hi; omega, h.one, h.off, h.low, fun i l hi hr hl => by
  by_cases e : l = j
  ·subst e; exact h0 i hi hr
  ·exact h.nul i l hi hr (by omega)⟩
/-- Two rows below the pivots may change places. -/
theorem Elm.swp {M : Nat → Nat → Nat} {r top j a b : Nat} {p : Nat → Nat} (h : Elm M r top j p) (ha : top ≤ a) (hb : top ≤ b) (har : a < r) (hbr : b < r) : Elm (swp M a b) r top j p := by
 have up : ∀ i l, i < top → Go.Proofs.YtblagbghpfopcaaGreat.swp M a b i l = M i l := fun i l hi => by unfold Go.Proofs.YtblagbghpfopcaaGreat.swp; rw [if_neg (by omega), if_neg (by omega)]
 refine ⟨h.tr, h.up, h.lt, fun i hi => by rw [up _ _ hi]; exact h.one i hi, fun i t hi ht hne => ?_, fun i l hi hl => by rw [up _ _ hi]; exact h.low i l hi hl, fun i l hi hr hl => ?_⟩
 ·unfold Go.Proofs.YtblagbghpfopcaaGreat.swp
  split
  ·exact h.off i b hi hbr (by omega)
  ·split
   ·exact h.off i a hi har (by omega)
   ·exact h.off i t hi ht hne
 ·unfold Go.Proofs.YtblagbghpfopcaaGreat.swp
  split
  ·exact h.nul b l hb hbr hl
  ·split
   ·exact h.nul a l ha har hl
   ·exact h.nul i l hi hr hl
/-- A row below the pivots may be multiplied. -/
theorem Elm.scale {M : Nat → Nat → Nat} {r top j a c : Nat} {p : Nat → Nat} (h : Elm M r top j p) (ha : top ≤ a) (har : a < r) : Elm (rw1 M a (fun l => fm c (M a l))) r top j p := by
 have up : ∀ i l, i < top → rw1 M a (fun l => fm c (M a l)) i l = M i l := fun i l hi => qic _ _ _ (by omega)
 refine ⟨h.tr, h.up, h.lt, fun i hi => by rw [up _ _ hi]; exact h.one i hi, fun i t hi ht hne => ?_, fun i l hi hl => by rw [up _ _ hi]; exact h.low i l hi hl, fun i l hi hr hl => ?_⟩
 ·unfold rw1
  split
  ·show fm c (M a (p i)) = 0
   rw [h.off i a hi har (by omega), qa9]
  ·exact h.off i t hi ht hne
 ·unfold rw1
  split
  ·show fm c (M a l) = 0
   rw [h.nul a l ha har hl, qa9]
  ·exact h.nul i l hi hr hl
/-- One pivot more. -/
theorem Elm.step {M : Nat → Nat → Nat} (hM : El2 M) {r top j : Nat} {p : Nat → Nat} (h : Elm M r top j p) (ht : top < r) (h1 : M top j = 1) : Elm (clr M top j) r (top + 1) (j + 1) (fun i => if i = top then j else p i) := by
 have et : ∀ l, clr M top j top l = M top l := fun l => if_pos rfl
 have en : ∀ i l, i ≠ top → clr M top j i l = M i l ^^^ fm (M i j) (M top l) := fun i l hi => if_neg hi
 -- left of column j the row of the pivot is 0
 have hl : ∀ l, l < j → M top l = 0 := fun l hl => h.nul top l (Nat.le_refl _) ht hl
 have same : ∀ i l, l < j → clr M top j i l = M i l := fun i l hlj => by
  by_cases e : i = top
  ·rw [e, et]
  ·rw [en _ _ e, hl l hlj, qa9, Nat.xor_zero]
 have hpj : ∀ i, i < top → p i < j := h.lt
 refine ⟨by omega, fun i t hi ht' => ?_, fun i hi => ?_, fun i hi => ?_, fun i t hi htr hne => ?_, fun i l hi hlp => ?_, fun i l hi hr hlj => ?_⟩
 ·show (if i = top then j else p i) < (if t = top then j else p t)
  rw [if_neg (by omega)]
  split
  ·exact hpj i (by omega)
  ·exact h.up i t hi (by omega)
 ·show (if i = top then j else p i) < j + 1
  split
  ·omega
  ·have := hpj i (by omega); omega
 ·show clr M top j i (if i = top then j else p i) = 1
  by_cases e : i = top
  ·rw [if_pos e, e, et, h1]
  ·rw [if_neg e, same _ _ (hpj i (by omega))]; exact h.one i (by omega)
 ·show clr M top j t (if i = top then j else p i) = 0
  by_cases e : i = top
  ·rw [if_pos e, en _ _ (by omega), h1, qbe _ (hM t j), Nat.xor_self]
  ·rw [if_neg e, same _ _ (hpj i (by omega))]; exact h.off i t (by omega) htr hne
 ·have hlp : l < (if i = top then j else p i) := hlp
  by_cases e : i = top
  ·rw [if_pos e] at hlp
   rw [e, et]; exact hl l hlp
  ·rw [if_neg e] at hlp
   rw [same _ _ (by have := hpj i (by omega); omega)]; exact h.low i l (by omega) hlp
 ·by_cases e : l = j
  ·subst e
   rw [en _ _ (by omega), h1, qbe _ (hM i l), Nat.xor_self]
  ·rw [same _ _ (by omega)]; exact h.nul i l (by omega) hr (by omega)
theorem Elm.rdf {M : Nat → Nat → Nat} {r top j : Nat} {p : Nat → Nat} (h : Elm M r top j p) (h0 : top = r ∨ ∀ i l, i < r → j ≤ l → M i l = 0) : Rdf M r top p :=
 ⟨h.tr, h.up, h.one, h.off, h.low, fun i l hi hr => by
  rcases h0 with e | h0
  ·omega
  ·by_cases e : l < j
   ·exact h.nul i l hi hr e
   ·exact h0 i l hr (by omega)⟩
/-- Behind the last column all is 0. -/
def Cut (M : Nat → Nat → Nat) (c : Nat) : Prop := ∀ i j, c ≤ j → M i j = 0
theorem Spn.cut {M : Nat → Nat → Nat} {r c : Nat} {y : Nat → Nat} (h : Spn M r y) (hM : ∀ i j, i < r → c ≤ j → M i j = 0) (j : Nat) (hj : c ≤ j) : y j = 0 := by
 obtain ⟨a, _, e⟩ := h
 rw [e j]
 exact qag (fun i hi => by rw [hM i j hi hj, qa9])
theorem Le.cut {M N : Nat → Nat → Nat} {r s c : Nat} (h : Le N s M r) (hM : ∀ i j, i < r → c ≤ j → M i j = 0) : ∀ i j, i < s → c ≤ j → N i j = 0 := fun i j hi hj => (h i hi).cut hM j hj
theorem Rk.at {M N : Nat → Nat → Nat} {r k : Nat} (h : Rk M r k) (e : ∀ i j, i < r → N i j = M i j) : Rk N r k := by
 obtain ⟨B, hE, hI, hB⟩ := h
 exact ⟨B, hE, hI, hB.1.rows2 (fun i j hi => (e i j hi).symm), hB.2.rows e⟩
/-- The factors of all rows at once. -/
theorem Le.factors {M N : Nat → Nat → Nat} {r s : Nat} (h : Le N s M r) : ∃ A, El2 A ∧ ∀ i, i < s → ∀ j, N i j = lc (A i) M r j := by
 have hch : ∀ i, ∃ a, El a ∧ (i < s → ∀ j, N i j = lc a M r j) := fun i => by
  by_cases hi : i < s
  ·obtain ⟨a, ha, e⟩ := h i hi
   exact ⟨a, ha, fun _ => e⟩
  ·exact ⟨fun _ => 0, fun _ => Nat.zero_lt_succ 255, fun h => absurd h hi⟩
 obtain ⟨A, hA⟩ := Classical.axiomOfChoice hch
 exact ⟨A, fun i j => (hA i).1 j, fun i hi j => (hA i).2 hi j⟩
/-- The product. -/
def pr (A B : Nat → Nat → Nat) (n i j : Nat) : Nat := lc (A i) B n j
/-- Rows that are combinations stay so in the products. -/
theorem Le.pr {A C : Nat → Nat → Nat} {r s : Nat} (h : Le A r C s) (hC : El2 C) (B : Nat → Nat → Nat) (n : Nat) : Le (pr A B n) r (pr C B n) s := fun i hi => by
 obtain ⟨x, hx, e⟩ := h i hi
 refine ⟨x, hx, fun j => ?_⟩
 have e1 : Go.Proofs.YtblagbghpfopcaaGreat.pr A B n i j = lc (fun t => lc x C s t) B n j := qb1 (fun t _ => e t) (fun _ _ => rfl)
 rw [e1]
 exact (lc_lc hx hC B s n j).symm
/-- How many below n, and which. -/
def cnt (P : Nat → Bool) : Nat → Nat
 | 0 => 0
 | n + 1 => cnt P n + if P n then 1 else 0
def nth (P : Nat → Bool) : Nat → Nat → Nat
 | 0, _ => 0
 | n + 1, u => if P n = true ∧ u = cnt P n then n else nth P n u
theorem qfy {P : Nat → Bool} {n : Nat} (h : P n = true) : cnt P (n + 1) = cnt P n + 1 := by simp [cnt, h]
theorem qkw {P : Nat → Bool} {n : Nat} (h : P n = false) : cnt P (n + 1) = cnt P n := by simp [cnt, h]
theorem cnt_mono (P : Nat → Bool) {n m : Nat} (h : n ≤ m) : cnt P n ≤ cnt P m := by
 induction h with
 | refl => exact Nat.le_refl _
 | step _ ih => exact Nat.le_trans ih (Nat.le_add_right _ _)
theorem qe2 (P : Nat → Bool) : ∀ n u, u < cnt P n → nth P n u < n ∧ P (nth P n u) = true ∧ cnt P (nth P n u) = u := by
 intro n
 induction n with
 | zero => intro u hu; simp [cnt] at hu
 | succ n ih =>
  intro u hu
  unfold nth
  by_cases h : P n = true ∧ u = cnt P n
  ·rw [if_pos h]
   exact ⟨by omega, h.1, h.2.symm⟩
  ·rw [if_neg h]
   have hu' : u < cnt P n := by
    cases hp : P n with
    | false => rwa [qkw hp] at hu
    | true =>
     rw [qfy hp] at hu
     have : u ≠ cnt P n := fun e => h ⟨hp, e⟩
     omega
   obtain ⟨h1, h2, h3⟩ := ih u hu'
   exact ⟨by omega, h2, h3⟩
theorem cnt_lt {P : Nat → Bool} {j n : Nat} (hj : j < n) (h : P j = true) : cnt P j < cnt P n := by
 have := cnt_mono P (show j + 1 ≤ n from hj)
 rw [qfy h] at this
 omega
theorem nth_cnt {P : Nat → Bool} {j n : Nat} (hj : j < n) (h : P j = true) : nth P n (cnt P j) = j := by
 obtain ⟨h1, h2, h3⟩ := qe2 P n (cnt P j) (cnt_lt hj h)
 apply Classical.byContradiction
 intro hne
 rcases Nat.lt_or_ge (nth P n (cnt P j)) j with hlt | hge
 ·have := cnt_lt hlt h2; omega
 ·have := cnt_lt (show j < nth P n (cnt P j) by omega) h; omega
theorem nth_up {P : Nat → Bool} {n u v : Nat} (h : u < v) (hv : v < cnt P n) : nth P n u < nth P n v := by
 obtain ⟨_, _, h3⟩ := qe2 P n u (by omega)
 obtain ⟨_, _, g3⟩ := qe2 P n v hv
 apply Classical.byContradiction
 intro hge
 have := cnt_mono P (Nat.le_of_not_lt hge)
 omega
theorem cnt_not (P : Nat → Bool) (n : Nat) : cnt P n + cnt (fun j => !P j) n = n := by
 induction n with
 | zero => rfl
 | succ n ih =>
  cases h : P n with
  | false => rw [qkw h, qfy (P := fun j => !P j) (by simp [h])]; omega
  | true => rw [qfy h, qkw (P := fun j => !P j) (by simp [h])]; omega
/-- Column j is a pivot's. -/
def pvt (p : Nat → Nat) (k j : Nat) : Bool := (List.range k).any (fun i => p i == j)
theorem qbw (p : Nat → Nat) (k j : Nat) : pvt p k j = true ↔ ∃ i, i < k ∧ p i = j := by simp [pvt]
theorem pvt_no {p : Nat → Nat} {k j : Nat} (h : pvt p k j = false) {i : Nat} (hi : i < k) : p i ≠ j := fun e => by
 rw [(qbw p k j).2 ⟨i, hi, e⟩] at h
 cases h
theorem cnt_pvt {p : Nat → Nat} {k n : Nat} (up : ∀ i t, i < t → t < k → p i < p t) (hn : ∀ i, i < k → p i < n) : cnt (pvt p k) n = k ∧ ∀ i, i < k → nth (pvt p k) n i = p i := by
 have := qe1 (p := p) (q := nth (pvt p k) n) (k := k) (l := cnt (pvt p k) n) up (fun i t hi ht => nth_up hi ht) (fun i hi => by
  have hp : pvt p k (p i) = true := (qbw p k (p i)).2 ⟨i, hi, rfl⟩
  exact ⟨_, cnt_lt (hn i hi) hp, (nth_cnt (hn i hi) hp).symm⟩) (fun u hu => by
  obtain ⟨_, h2, _⟩ := qe2 (pvt p k) n u hu
  obtain ⟨i, hi, e⟩ := (qbw p k _).1 h2
  exact ⟨i, hi, e.symm⟩)
 exact ⟨this.1.symm, fun i hi => (this.2 i hi).symm⟩
theorem qem {M N : Nat → Nat → Nat} {r s : Nat} {x : Nat → Nat} (hx : El x) (h : ∀ i, i < s → x i ≠ 0 → Spn M r (N i)) : Spn M r (lc x N s) := by
 induction s with
 | zero => exact (qd4 M r).congr (fun j => rfl)
 | succ s ih =>
  have ih := ih (fun i hi => h i (by omega))
  by_cases e : x s = 0
  ·exact ih.congr (fun j => by show xs (fun i => fm (x i) (N i j)) s ^^^ fm (x s) (N s j) = _; rw [e, qac, Nat.xor_zero]; rfl)
  ·exact (qcb ih (qb2 (hx s) (h s (by omega) e))).congr (fun j => rfl)
/-- What row y is sent to by x: the first c columns count. -/
def dt (y x : Nat → Nat) (c : Nat) : Nat := xs (fun j => fm (y j) (x j)) c
theorem dt_lc {a : Nat → Nat} (ha : El a) {M : Nat → Nat → Nat} (hM : El2 M) (r : Nat) (x : Nat → Nat) (c : Nat) : dt (lc a M r) x c = xs (fun i => fm (a i) (dt (M i) x c)) r := by
 unfold dt lc
 have h1 : ∀ j, j < c → fm (xs (fun i => fm (a i) (M i j)) r) (x j) = xs (fun i => fm (a i) (fm (M i j) (x j))) r := fun j _ => by
  rw [qfw _ _ _ (fun i _ => qaq _ _ (ha i))]
  exact qa7 (fun i _ => qam _ _ _ (ha i) (hM i j))
 rw [qa7 h1, qhm]
 exact qa7 (fun i _ => (qd3 _ _ _).symm)
theorem dt_congr {y z x : Nat → Nat} {c : Nat} (h : ∀ j, j < c → y j = z j) : dt y x c = dt z x c := qa7 (fun j hj => by rw [h j hj])
theorem qkx {y x z : Nat → Nat} {c : Nat} (h : ∀ j, j < c → x j = z j) : dt y x c = dt y z c := qa7 (fun j hj => by rw [h j hj])
theorem dt_add (y x z : Nat → Nat) (c : Nat) : dt y (fun j => x j ^^^ z j) c = dt y x c ^^^ dt y z c := by
 unfold dt
 rw [← qib]
 exact qa7 (fun j _ => qfd _ _ _)
/-- What all rows send to nothing all their combinations do. -/
theorem qfz {M : Nat → Nat → Nat} (hM : El2 M) {r c : Nat} {x y : Nat → Nat} (hy : Spn M r y) (h : ∀ i, i < r → dt (M i) x c = 0) : dt y x c = 0 := by
 obtain ⟨a, ha, e⟩ := hy
 have : dt y x c = dt (lc a M r) x c := dt_congr (fun j _ => e j)
 rw [this, dt_lc ha hM]
 exact qag (fun i hi => by rw [h i hi, qa9])
/-- The matrix with a further column, in place c. -/
def aug (M : Nat → Nat → Nat) (c : Nat) (b : Nat → Nat) (i j : Nat) : Nat := if j = c then b i else M i j
theorem aug_el {M : Nat → Nat → Nat} (hM : El2 M) (c : Nat) {b : Nat → Nat} (hb : El b) : El2 (aug M c b) := fun i j => by unfold aug; split; exact hb i; exact hM i j
theorem aug_at (M : Nat → Nat → Nat) (c : Nat) (b : Nat → Nat) (i : Nat) : aug M c b i c = b i := if_pos rfl
theorem qky (M : Nat → Nat → Nat) {c j : Nat} (b : Nat → Nat) (i : Nat) (h : j < c) : aug M c b i j = M i j := if_neg (by omega)
/-- x is sent to b. -/
def Sol (M : Nat → Nat → Nat) (r c : Nat) (b x : Nat → Nat) : Prop := ∀ i, i < r → dt (M i) x c = b i
theorem dt_aug (M : Nat → Nat → Nat) (c : Nat) {b : Nat → Nat} (hb : El b) (x : Nat → Nat) (i : Nat) : dt (aug M c b i) (fun j => if j = c then 1 else x j) (c + 1) = dt (M i) x c ^^^ b i := by
 show xs (fun j => fm (aug M c b i j) (if j = c then 1 else x j)) c ^^^ fm (aug M c b i c) (if c = c then 1 else x c) = _
 rw [aug_at, if_pos rfl, qbe _ (hb i)]
 congr 1
 exact qa7 (fun j hj => by rw [qky _ _ _ hj, if_neg (by omega)])
theorem qho {M : Nat → Nat → Nat} {r c : Nat} {b : Nat → Nat} (hb : El b) (x : Nat → Nat) : Sol M r c b x ↔ ∀ i, i < r → dt (aug M c b i) (fun j => if j = c then 1 else x j) (c + 1) = 0 := by
 constructor
 ·intro h i hi
  rw [dt_aug M c hb, h i hi, Nat.xor_self]
 ·intro h i hi
  have := h i hi
  rw [dt_aug M c hb] at this
  exact qd5 this
/-- What is done to rows and to b alike leaves what is sent to b. -/
theorem qg0 {M N : Nat → Nat → Nat} (hM : El2 M) {r s c : Nat} {b d : Nat → Nat} (hb : El b) (hd : El d) (h : Le (aug N c d) s (aug M c b) r) {x : Nat → Nat} (hx : Sol M r c b x) : Sol N s c d x := by
 rw [qho hd]
 rw [qho hb] at hx
 exact fun i hi => qfz (aug_el hM c hb) (h i hi) hx
/-- v's numbers at the pivots' columns, else 0. -/
def pp (p : Nat → Nat) (k : Nat) (v : Nat → Nat) (j : Nat) : Nat := xs (fun i => if p i = j then v i else 0) k
theorem pp_at {p : Nat → Nat} {k : Nat} (up : ∀ i t, i < t → t < k → p i < p t) (v : Nat → Nat) {t : Nat} (ht : t < k) : pp p k v (p t) = v t := by
 unfold pp
 rw [qbr ht (fun i hi hne => if_neg (fun e => by
  rcases Nat.lt_or_gt_of_ne hne with h | h
  ·have := up i t h ht; omega
  ·have := up t i h hi; omega)), if_pos rfl]
theorem qen {p : Nat → Nat} {k j : Nat} (v : Nat → Nat) (h : pvt p k j = false) : pp p k v j = 0 := qag (fun _ hi => if_neg (pvt_no h hi))
theorem qgt (p : Nat → Nat) (k : Nat) {v : Nat → Nat} (hv : El v) : El (pp p k v) := fun _ => qhl (fun i _ => qku _ _ (hv i))
theorem dt_pp {y : Nat → Nat} (_hy : El y) {p : Nat → Nat} {k c : Nat} (hc : ∀ i, i < k → p i < c) (v : Nat → Nat) : dt y (pp p k v) c = xs (fun i => fm (y (p i)) (v i)) k := by
 unfold dt pp
 have h1 : ∀ j, j < c → fm (y j) (xs (fun i => if p i = j then v i else 0) k) = xs (fun i => if p i = j then fm (y j) (v i) else 0) k := fun j _ => by
  rw [qd3]
  exact qa7 (fun i _ => ite_fm _ _ _)
 rw [qa7 h1, qhm]
 refine qa7 (fun i hi => ?_)
 rw [qbr (hc i hi) (fun j _ hne => if_neg (fun e => hne e.symm)), if_pos rfl]
/-- A reduced matrix sends v's numbers, put at the pivots, to v. -/
theorem Rdf.sends {R : Nat → Nat → Nat} (hR : El2 R) {r k c : Nat} {p : Nat → Nat} (h : Rdf R r k p) (hc : ∀ i, i < k → p i < c) {v : Nat → Nat} (hv : El v) (h0 : ∀ i, k ≤ i → i < r → v i = 0) : Sol R r c v (pp p k v) := by
 intro i hi
 rw [dt_pp (hR i) hc]
 by_cases e : i < k
 ·rw [qbr e (fun t ht hne => by rw [h.off t i ht hi (Ne.symm hne), qac]), h.one i e, qb7 _ (hv i)]
 ·rw [h0 i (by omega) hi]
  exact qag (fun t ht => by rw [h.nul i _ (by omega) hi, qac])
/-- Of what a reduced matrix sends to nothing the pivots' numbers are told by the others. -/
theorem Rdf.zero_at {R : Nat → Nat → Nat} {r k c : Nat} {p : Nat → Nat} (h : Rdf R r k p) (hc : ∀ i, i < k → p i < c) {x : Nat → Nat} (hx : El x) (hf : ∀ j, j < c → pvt p k j = false → x j = 0) (h0 : ∀ i, i < r → dt (R i) x c = 0) : ∀ j, j < c → x j = 0 := by
 have key : ∀ t, t < k → x (p t) = 0 := fun t ht => by
  have hr : t < r := by have := h.kr; omega
  rw [← h0 t hr]
  unfold dt
  rw [qbr (hc t ht) (fun j hj hne => ?_), h.one t ht, qb7 _ (hx _)]
  cases hp : pvt p k j with
  | false => rw [hf j hj hp, qa9]
  | true =>
   obtain ⟨i, hi, e⟩ := (qbw p k j).1 hp
   rw [← e, h.off i t hi hr (fun e2 => hne (by rw [← e, e2])), qac]
 intro j hj
 cases hp : pvt p k j with
 | false => exact hf j hj hp
 | true =>
  obtain ⟨i, hi, e⟩ := (qbw p k j).1 hp
  rw [← e]
  exact key i hi
/-- A pivot in the further column: nothing is sent to b. -/
theorem no_sol {M R : Nat → Nat → Nat} (hM : El2 M) {r c k : Nat} {p : Nat → Nat} {b : Nat → Nat} (hb : El b) (h : Rdf R r k p) (hS : Le R r (aug M c b) r) {i : Nat} (hi : i < k) (hp : p i = c) (x : Nat → Nat) : ¬ Sol M r c b x := by
 intro hx
 rw [qho hb] at hx
 have hr : i < r := by have := h.kr; omega
 have h0 := qfz (aug_el hM c hb) (hS i hr) hx
 have h1 : dt (R i) (fun j => if j = c then 1 else x j) (c + 1) = 1 := by
  unfold dt
  rw [qbr (show c < c + 1 by omega) (fun j hj hne => by rw [h.low i j hi (by omega), qac])]
  show fm (R i c) (if c = c then 1 else x c) = 1
  rw [if_pos rfl]
  have := h.one i hi
  rw [hp] at this
  rw [this]; exact qb7 1 (by decide)
 omega
/-- The first columns of a reduced matrix none of whose pivots stands behind them. -/
theorem Rdf.first {R N : Nat → Nat → Nat} {r k c : Nat} {p : Nat → Nat} (h : Rdf R r k p) (hc : ∀ i, i < k → p i < c) (e : ∀ i j, i < r → N i j = if j < c then R i j else 0) : Rdf N r k p := by
 have := h.kr
 refine ⟨h.kr, h.up, fun i hi => by rw [e _ _ (by omega), if_pos (hc i hi)]; exact h.one i hi, fun i t hi ht hne => by rw [e _ _ ht, if_pos (hc i hi)]; exact h.off i t hi ht hne, fun i j hi hj => ?_, fun i j hi hr => ?_⟩
 ·rw [e _ _ (by omega)]
  split
  ·exact h.low i j hi hj
  ·rfl
 ·rw [e _ _ hr]
  split
  ·exact h.nul i j hi hr
  ·rfl
theorem Spn.first {M N : Nat → Nat → Nat} {r c : Nat} {y z : Nat → Nat} (h : Spn M r y) (e : ∀ i j, i < r → N i j = if j < c then M i j else 0) (e2 : ∀ j, z j = if j < c then y j else 0) : Spn N r z := by
 obtain ⟨a, ha, ea⟩ := h
 refine ⟨a, ha, fun j => ?_⟩
 rw [e2 j]
 by_cases hj : j < c
 ·rw [if_pos hj, ea j]
  exact qb1 (fun _ _ => rfl) (fun i hi => by rw [e i j hi, if_pos hj])
 ·rw [if_neg hj]
  exact (qag (fun i hi => by rw [e i j hi, if_neg hj, qa9])).symm
/-- The list for a free column f. -/
def kv (R : Nat → Nat → Nat) (p : Nat → Nat) (k f j : Nat) : Nat := if j = f then 1 else pp p k (fun i => R i f) j
theorem kv_el {R : Nat → Nat → Nat} (hR : El2 R) (p : Nat → Nat) (k f : Nat) : El (kv R p k f) := fun j => by unfold kv; split; decide; exact qgt p k (fun i => hR i f) j
theorem Rdf.kv {R : Nat → Nat → Nat} (hR : El2 R) {r k c f : Nat} {p : Nat → Nat} (h : Rdf R r k p) (hc : ∀ i, i < k → p i < c) (hf : pvt p k f = false) (hfc : f < c) : ∀ i, i < r → dt (R i) (kv R p k f) c = 0 := by
 intro i hi
 have e : dt (R i) (Go.Proofs.YtblagbghpfopcaaGreat.kv R p k f) c = dt (R i) (fun j => dl f j ^^^ pp p k (fun i => R i f) j) c := qkx (fun j _ => by
  unfold Go.Proofs.YtblagbghpfopcaaGreat.kv
  by_cases e : j = f
  ·rw [if_pos e, e, qel, qen _ hf]
   rfl
  ·rw [if_neg e, dl_ne e, Nat.zero_xor])
 rw [e, dt_add, dt_pp (hR i) hc]
 have e1 : dt (R i) (dl f) c = R i f := by
  unfold dt
  rw [qbr hfc (fun j _ hne => by rw [dl_ne hne, qa9]), qel, qbe _ (hR i f)]
 rw [e1]
 by_cases hik : i < k
 ·rw [qbr hik (fun t ht hne => by rw [h.off t i ht hi (Ne.symm hne), qac]), h.one i hik, qb7 _ (hR i f), Nat.xor_self]
 ·rw [h.nul i f (by omega) hi, Nat.zero_xor]
  exact qag (fun t ht => by rw [h.nul i _ (by omega) hi, qac])
/-- Row i is no combination of the rows above it. -/
def Fst (M : Nat → Nat → Nat) (i : Nat) : Prop := ¬ Spn M i (M i)
/-- Factors that are 0 but at such rows. -/
def OnF (M : Nat → Nat → Nat) (r : Nat) (a : Nat → Nat) : Prop := El a ∧ ∀ i, i < r → a i ≠ 0 → Fst M i
theorem fst_zero {M : Nat → Nat → Nat} (hM : El2 M) : ∀ (n : Nat) (d : Nat → Nat), OnF M n d → (∀ j, lc d M n j = 0) → ∀ i, i < n → d i = 0 := by
 intro n
 induction n with
 | zero => intro d _ _ i hi; omega
 | succ n ih =>
  intro d hd hz
  have hn : d n = 0 := Classical.byContradiction fun hne => hd.2 n (by omega) hne (by
   have hv := qae (d n)
   refine (qb2 hv ⟨d, hd.1, fun _ => rfl⟩ : Spn M n (fun j => fm (finv (d n)) (lc d M n j))).congr (fun j => ?_)
   have e : lc d M n j = fm (d n) (M n j) := qd5 (hz j)
   rw [e, ← qam _ _ _ hv (hd.1 n), qaf _ _ hv (hd.1 n), qar _ (hd.1 n) hne, qb7 _ (hM n j)])
  intro i hi
  by_cases e : i = n
  ·rw [e]; exact hn
  ·refine ih d ⟨hd.1, fun i hi => hd.2 i (by omega)⟩ (fun j => ?_) i (by omega)
   have : lc d M n j = fm (d n) (M n j) := qd5 (hz j)
   rw [this, hn, qac]
/-- Each combination has one. -/
theorem fst_ex {M : Nat → Nat → Nat} : ∀ (r : Nat) (y : Nat → Nat), Spn M r y → ∃ a, OnF M r a ∧ ∀ j, y j = lc a M r j := by
 intro r
 induction r with
 | zero =>
  rintro y ⟨a, ha, e⟩
  exact ⟨a, ⟨ha, fun i hi => by omega⟩, e⟩
 | succ r ih =>
  rintro y ⟨a, ha, e⟩
  by_cases hf : Spn M r (M r)
  ·have hy : Spn M r y := (qcb ⟨a, ha, fun _ => rfl⟩ (qb2 (ha r) hf) : Spn M r (fun j => lc a M r j ^^^ fm (a r) (M r j))).congr (fun j => e j)
   obtain ⟨b, hb, eb⟩ := ih y hy
   refine ⟨fun i => if i < r then b i else 0, ⟨fun i => qku _ _ (hb.1 i), fun i hi hne => ?_⟩, fun j => ?_⟩
   ·have hne : (if i < r then b i else 0) ≠ 0 := hne
    by_cases h : i < r
    ·rw [if_pos h] at hne; exact hb.2 i h hne
    ·rw [if_neg h] at hne; exact absurd rfl hne
   ·rw [eb j]
    show _ = xs (fun i => fm (if i < r then b i else 0) (M i j)) r ^^^ fm (if r < r then b r else 0) (M r j)
    rw [if_neg (by omega), qac, Nat.xor_zero]
    exact qa7 (fun i hi => by rw [if_pos hi])
  ·obtain ⟨b, hb, eb⟩ := ih (lc a M r) ⟨a, ha, fun _ => rfl⟩
   refine ⟨fun i => if i < r then b i else a i, ⟨fun i => ?_, fun i hi hne => ?_⟩, fun j => ?_⟩
   ·show (if i < r then b i else a i) < 256
    split
    ·exact hb.1 i
    ·exact ha i
   ·have hne : (if i < r then b i else a i) ≠ 0 := hne
    by_cases h : i < r
    ·rw [if_pos h] at hne; exact hb.2 i h hne
    ·have : i = r := by omega
     rw [this]; exact hf
   ·rw [e j]
    show lc a M r j ^^^ fm (a r) (M r j) = xs (fun i => fm (if i < r then b i else a i) (M i j)) r ^^^ fm (if r < r then b r else a r) (M r j)
    rw [if_neg (by omega), eb j]
    congr 1
    exact qa7 (fun i hi => by rw [if_pos hi])
/-- Reduced, square and of full rank: the identity. -/
theorem Rdf.full {R : Nat → Nat → Nat} {n : Nat} {p : Nat → Nat} (h : Rdf R n n p) (hc : ∀ i, i < n → p i < n) : ∀ i j, i < n → j < n → R i j = dl i j := by
 have hp := qe1 (p := p) (q := fun i => i) (k := n) (l := n) h.up (fun i t hi _ => hi) (fun i hi => ⟨p i, hc i hi, rfl⟩) (fun j hj => by
  have e := (cnt_pvt h.up hc).1
  have h2 := cnt_not (pvt p n) n
  cases hv : pvt p n j with
  | true =>
   obtain ⟨i, hi, e⟩ := (qbw p n j).1 hv
   exact ⟨i, hi, e.symm⟩
  | false =>
   have := cnt_lt (P := fun j => !pvt p n j) hj (by simp [hv])
   omega)
 intro i j hi hj
 by_cases e : j = i
 ·subst e
  rw [qel]
  have := h.one j hj
  rwa [hp.2 j hj] at this
 ·rw [dl_ne e]
  have := h.off j i hj hi (fun e2 => e e2.symm)
  rwa [hp.2 j hj] at this
end Go.Proofs.YtblagbghpfopcaaGreat
