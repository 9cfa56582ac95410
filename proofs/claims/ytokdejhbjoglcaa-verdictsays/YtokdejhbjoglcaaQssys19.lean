/-
  Ranks of a matrix transposed and of products; counting pivot columns and free ones.
  What a reduced form tells: what is sent to a list, what is sent to nothing, rows that are no combinations of those above, inverses.
-/
import Derived.Test.YtokdejhbjoglcaaQssys00
import Derived.Test.YtokdejhbjoglcaaQssys18
set_option maxRecDepth 100000
set_option maxHeartbeats 16000000
namespace Go.Proofs.Ytokdejhbjoglcaa
/-- The first r rows, transposed. -/
def tpo (M : Nat → Nat → Nat) (r i j : Nat) : Nat := if j < r then M j i else 0
theorem Rk.at {M N : Nat → Nat → Nat} {r k : Nat} (h : Rk M r k) (e : ∀ i j, i < r → N i j = M i j) : Rk N r k := by
 obtain ⟨B, hE, hI, hB⟩ := h
 exact ⟨B, hE, hI, hB.1.rows2 (fun i j hi => (e i j hi).symm), hB.2.rows e⟩
/-- The factors of all rows at once. -/
theorem Le.factors {M N : Nat → Nat → Nat} {r s : Nat} (h : Le N s M r) : ∃ A, El2 A ∧ ∀ i, i < s → ∀ j, N i j = lc (A i) M r j := by
 have hch : ∀ i, ∃ a, El a ∧ (i < s → ∀ j, N i j = lc a M r j) := fun i => by
  by_cases hi : i < s
  ·obtain ⟨a, ha, e⟩ := h i hi
   exact ⟨a, ha, fun _ => e⟩
  ·exact ⟨fun _ => 0, fun _ => Nat.zero_lt_succ 255, fun h => absurd h hi⟩
 obtain ⟨A, hA⟩ := Classical.axiomOfChoice hch
 exact ⟨A, fun i j => (hA i).1 j, fun i hi j => (hA i).2 hi j⟩
theorem qe9 {M : Nat → Nat → Nat} {r c k l : Nat} (hM : Rk M r k) (hT : Rk (tpo M r) c l) : l ≤ k := by
 obtain ⟨N, hE, _, hN⟩ := hM
 obtain ⟨A, hA, eA⟩ := hN.2.factors
 refine hT.le (N := fun t i => if i < r then A i t else 0) (fun u _ => ⟨fun t => N t u, fun t => hE t u, fun i => ?_⟩)
 unfold tpo
 by_cases hi : i < r
 ·rw [if_pos hi, eA i hi u]
  exact qa5 (fun t _ => by dsimp only; rw [if_pos hi, qaa _ _ (hA i t) (hE t u)])
 ·rw [if_neg hi]
  exact (qab (fun t _ => by dsimp only; rw [if_neg hi, qa4])).symm
/-- The rank is that of the matrix transposed. -/
theorem rk_tpo {M : Nat → Nat → Nat} {r c k l : Nat} (hc : ∀ i j, i < r → c ≤ j → M i j = 0) (hM : Rk M r k) (hT : Rk (tpo M r) c l) : k = l := by
 refine Nat.le_antisymm (qe9 hT (hM.at (N := tpo (tpo M r) c) (fun i j hi => ?_))) (qe9 hM hT)
 unfold tpo
 by_cases hj : j < c
 ·rw [if_pos hj, if_pos hi]
 ·rw [if_neg hj, hc i j hi (by omega)]
/-- The product. -/
def pr (A B : Nat → Nat → Nat) (n i j : Nat) : Nat := lc (A i) B n j
/-- Rows that are combinations stay so in the products. -/
theorem Le.pr {A C : Nat → Nat → Nat} {r s : Nat} (h : Le A r C s) (hC : El2 C) (B : Nat → Nat → Nat) (n : Nat) : Le (pr A B n) r (pr C B n) s := fun i hi => by
 obtain ⟨x, hx, e⟩ := h i hi
 refine ⟨x, hx, fun j => ?_⟩
 have e1 : Go.Proofs.Ytokdejhbjoglcaa.pr A B n i j = lc (fun t => lc x C s t) B n j := qbr (fun t _ => e t) (fun _ _ => rfl)
 rw [e1]
 exact (lc_lc hx hC B s n j).symm
/-- How many below n, and which. -/
def cnt (P : Nat → Bool) : Nat → Nat
 | 0 => 0
 | n + 1 => cnt P n + if P n then 1 else 0
def nth (P : Nat → Bool) : Nat → Nat → Nat
 | 0, _ => 0
 | n + 1, u => if P n = true ∧ u = cnt P n then n else nth P n u
theorem qdu {P : Nat → Bool} {n : Nat} (h : P n = true) : cnt P (n + 1) = cnt P n + 1 := by simp [cnt, h]
theorem qgx {P : Nat → Bool} {n : Nat} (h : P n = false) : cnt P (n + 1) = cnt P n := by simp [cnt, h]
theorem cnt_mono (P : Nat → Bool) {n m : Nat} (h : n ≤ m) : cnt P n ≤ cnt P m := by
 induction h with
 | refl => exact Nat.le_refl _
 | step _ ih => exact Nat.le_trans ih (Nat.le_add_right _ _)
theorem qcq (P : Nat → Bool) : ∀ n u, u < cnt P n → nth P n u < n ∧ P (nth P n u) = true ∧ cnt P (nth P n u) = u := by
 intro n
 induction n with
 | zero => intro u hu; simp [cnt] at hu
 | succ n ih =>
  intro u hu
  unfold nth
  by_cases h : P n = true ∧ u = cnt P n
  ·rw [if_pos h]
   exact ⟨by omega, h.1, h.2.symm⟩
  ·rw [if_neg h]
   have hu' : u < cnt P n := by
    cases hp : P n with
    | false => rwa [qgx hp] at hu
    | true =>
     rw [qdu hp] at hu
     have : u ≠ cnt P n := fun e => h ⟨hp, e⟩
     omega
   obtain ⟨h1, h2, h3⟩ := ih u hu'
   exact ⟨by omega, h2, h3⟩
theorem cnt_lt {P : Nat → Bool} {j n : Nat} (hj : j < n) (h : P j = true) : cnt P j < cnt P n := by
 have := cnt_mono P (show j + 1 ≤ n from hj)
 rw [qdu h] at this
 omega
theorem nth_cnt {P : Nat → Bool} {j n : Nat} (hj : j < n) (h : P j = true) : nth P n (cnt P j) = j := by
 obtain ⟨h1, h2, h3⟩ := qcq P n (cnt P j) (cnt_lt hj h)
 apply Classical.byContradiction
 intro hne
 rcases Nat.lt_or_ge (nth P n (cnt P j)) j with hlt | hge
 ·have := cnt_lt hlt h2; omega
 ·have := cnt_lt (show j < nth P n (cnt P j) by omega) h; omega
theorem nth_up {P : Nat → Bool} {n u v : Nat} (h : u < v) (hv : v < cnt P n) : nth P n u < nth P n v := by
 obtain ⟨_, _, h3⟩ := qcq P n u (by omega)
 obtain ⟨_, _, g3⟩ := qcq P n v hv
 apply Classical.byContradiction
 intro hge
 have := cnt_mono P (Nat.le_of_not_lt hge)
 omega
theorem cnt_not (P : Nat → Bool) (n : Nat) : cnt P n + cnt (fun j => !P j) n = n := by
 induction n with
 | zero => rfl
 | succ n ih =>
  cases h : P n with
  | false => rw [qgx h, qdu (P := fun j => !P j) (by simp [h])]; omega
  | true => rw [qdu h, qgx (P := fun j => !P j) (by simp [h])]; omega
/-- Column j is a pivot's. -/
def pvt (p : Nat → Nat) (k j : Nat) : Bool := (List.range k).any (fun i => p i == j)
theorem qb2 (p : Nat → Nat) (k j : Nat) : pvt p k j = true ↔ ∃ i, i < k ∧ p i = j := by simp [pvt]
theorem pvt_no {p : Nat → Nat} {k j : Nat} (h : pvt p k j = false) {i : Nat} (hi : i < k) : p i ≠ j := fun e => by
 rw [(qb2 p k j).2 ⟨i, hi, e⟩] at h
 cases h
theorem cnt_pvt {p : Nat → Nat} {k n : Nat} (up : ∀ i t, i < t → t < k → p i < p t) (hn : ∀ i, i < k → p i < n) : cnt (pvt p k) n = k ∧ ∀ i, i < k → nth (pvt p k) n i = p i := by
 have := qcp (p := p) (q := nth (pvt p k) n) (k := k) (l := cnt (pvt p k) n) up (fun i t hi ht => nth_up hi ht) (fun i hi => by
  have hp : pvt p k (p i) = true := (qb2 p k (p i)).2 ⟨i, hi, rfl⟩
  exact ⟨_, cnt_lt (hn i hi) hp, (nth_cnt (hn i hi) hp).symm⟩) (fun u hu => by
  obtain ⟨_, h2, _⟩ := qcq (pvt p k) n u hu
  obtain ⟨i, hi, e⟩ := (qb2 p k _).1 h2
  exact ⟨i, hi, e.symm⟩)
 exact ⟨this.1.symm, fun i hi => (this.2 i hi).symm⟩
/-- What row y is sent to by x: the first c columns count. -/
def dt (y x : Nat → Nat) (c : Nat) : Nat := xs (fun j => fm (y j) (x j)) c
theorem dt_lc {a : Nat → Nat} (ha : El a) {M : Nat → Nat → Nat} (hM : El2 M) (r : Nat) (x : Nat → Nat) (c : Nat) : dt (lc a M r) x c = xs (fun i => fm (a i) (dt (M i) x c)) r := by
 unfold dt lc
 have h1 : ∀ j, j < c → fm (xs (fun i => fm (a i) (M i j)) r) (x j) = xs (fun i => fm (a i) (fm (M i j) (x j))) r := fun j _ => by
  rw [qds _ _ _ (fun i _ => qah _ _ (ha i))]
  exact qa5 (fun i _ => qag _ _ _ (ha i) (hM i j))
 rw [qa5 h1, qep]
 exact qa5 (fun i _ => (qbq _ _ _).symm)
theorem dt_congr {y z x : Nat → Nat} {c : Nat} (h : ∀ j, j < c → y j = z j) : dt y x c = dt z x c := qa5 (fun j hj => by rw [h j hj])
theorem qgy {y x z : Nat → Nat} {c : Nat} (h : ∀ j, j < c → x j = z j) : dt y x c = dt y z c := qa5 (fun j hj => by rw [h j hj])
theorem dt_add (y x z : Nat → Nat) (c : Nat) : dt y (fun j => x j ^^^ z j) c = dt y x c ^^^ dt y z c := by
 unfold dt
 rw [← qf3]
 exact qa5 (fun j _ => qdj _ _ _)
/-- What all rows send to nothing all their combinations do. -/
theorem qgz {M : Nat → Nat → Nat} (hM : El2 M) {r c : Nat} {x y : Nat → Nat} (hy : Spn M r y) (h : ∀ i, i < r → dt (M i) x c = 0) : dt y x c = 0 := by
 obtain ⟨a, ha, e⟩ := hy
 have : dt y x c = dt (lc a M r) x c := dt_congr (fun j _ => e j)
 rw [this, dt_lc ha hM]
 exact qab (fun i hi => by rw [h i hi, qa4])
/-- The matrix with a further column, in place c. -/
def aug (M : Nat → Nat → Nat) (c : Nat) (b : Nat → Nat) (i j : Nat) : Nat := if j = c then b i else M i j
/-- x is sent to b. -/
def Sol (M : Nat → Nat → Nat) (r c : Nat) (b x : Nat → Nat) : Prop := ∀ i, i < r → dt (M i) x c = b i
/-- v's numbers at the pivots' columns, else 0. -/
def pp (p : Nat → Nat) (k : Nat) (v : Nat → Nat) (j : Nat) : Nat := xs (fun i => if p i = j then v i else 0) k
theorem pp_free {p : Nat → Nat} {k j : Nat} (v : Nat → Nat) (h : pvt p k j = false) : pp p k v j = 0 := qab (fun _ hi => if_neg (pvt_no h hi))
theorem pp_el (p : Nat → Nat) (k : Nat) {v : Nat → Nat} (hv : El v) : El (pp p k v) := fun _ => qeo (fun i _ => ite_lt _ _ (hv i))
theorem dt_pp {y : Nat → Nat} (_hy : El y) {p : Nat → Nat} {k c : Nat} (hc : ∀ i, i < k → p i < c) (v : Nat → Nat) : dt y (pp p k v) c = xs (fun i => fm (y (p i)) (v i)) k := by
 unfold dt pp
 have h1 : ∀ j, j < c → fm (y j) (xs (fun i => if p i = j then v i else 0) k) = xs (fun i => if p i = j then fm (y j) (v i) else 0) k := fun j _ => by
  rw [qbq]
  exact qa5 (fun i _ => ite_fm _ _ _)
 rw [qa5 h1, qep]
 refine qa5 (fun i hi => ?_)
 rw [qbk (hc i hi) (fun j _ hne => if_neg (fun e => hne e.symm)), if_pos rfl]
/-- A reduced matrix sends v's numbers, put at the pivots, to v. -/
theorem Rdf.sends {R : Nat → Nat → Nat} (hR : El2 R) {r k c : Nat} {p : Nat → Nat} (h : Rdf R r k p) (hc : ∀ i, i < k → p i < c) {v : Nat → Nat} (hv : El v) (h0 : ∀ i, k ≤ i → i < r → v i = 0) : Sol R r c v (pp p k v) := by
 intro i hi
 rw [dt_pp (hR i) hc]
 by_cases e : i < k
 ·rw [qbk e (fun t ht hne => by rw [h.off t i ht hi (Ne.symm hne), qad]), h.one i e, qat _ (hv i)]
 ·rw [h0 i (by omega) hi]
  exact qab (fun t ht => by rw [h.nul i _ (by omega) hi, qad])
/-- Of what a reduced matrix sends to nothing the pivots' numbers are told by the others. -/
theorem Rdf.zero_at {R : Nat → Nat → Nat} {r k c : Nat} {p : Nat → Nat} (h : Rdf R r k p) (hc : ∀ i, i < k → p i < c) {x : Nat → Nat} (hx : El x) (hf : ∀ j, j < c → pvt p k j = false → x j = 0) (h0 : ∀ i, i < r → dt (R i) x c = 0) : ∀ j, j < c → x j = 0 := by
 have key : ∀ t, t < k → x (p t) = 0 := fun t ht => by
  have hr : t < r := by have := h.kr; omega
  rw [← h0 t hr]
  unfold dt
  rw [qbk (hc t ht) (fun j hj hne => ?_), h.one t ht, qat _ (hx _)]
  cases hp : pvt p k j with
  | false => rw [hf j hj hp, qa4]
  | true =>
   obtain ⟨i, hi, e⟩ := (qb2 p k j).1 hp
   rw [← e, h.off i t hi hr (fun e2 => hne (by rw [← e, e2])), qad]
 intro j hj
 cases hp : pvt p k j with
 | false => exact hf j hj hp
 | true =>
  obtain ⟨i, hi, e⟩ := (qb2 p k j).1 hp
  rw [← e]
  exact key i hi
/-- The first columns of a reduced matrix none of whose pivots stands behind them. -/
theorem Rdf.first {R N : Nat → Nat → Nat} {r k c : Nat} {p : Nat → Nat} (h : Rdf R r k p) (hc : ∀ i, i < k → p i < c) (e : ∀ i j, i < r → N i j = if j < c then R i j else 0) : Rdf N r k p := by
 have := h.kr
 refine ⟨h.kr, h.up, fun i hi => by rw [e _ _ (by omega), if_pos (hc i hi)]; exact h.one i hi, fun i t hi ht hne => by rw [e _ _ ht, if_pos (hc i hi)]; exact h.off i t hi ht hne, fun i j hi hj => ?_, fun i j hi hr => ?_⟩
 ·rw [e _ _ (by omega)]
  split
  ·exact h.low i j hi hj
  ·rfl
 ·rw [e _ _ hr]
  split
  ·exact h.nul i j hi hr
  ·rfl
theorem Spn.first {M N : Nat → Nat → Nat} {r c : Nat} {y z : Nat → Nat} (h : Spn M r y) (e : ∀ i j, i < r → N i j = if j < c then M i j else 0) (e2 : ∀ j, z j = if j < c then y j else 0) : Spn N r z := by
 obtain ⟨a, ha, ea⟩ := h
 refine ⟨a, ha, fun j => ?_⟩
 rw [e2 j]
 by_cases hj : j < c
 ·rw [if_pos hj, ea j]
  exact qbr (fun _ _ => rfl) (fun i hi => by rw [e i j hi, if_pos hj])
 ·rw [if_neg hj]
  exact (qab (fun i hi => by rw [e i j hi, if_neg hj, qa4])).symm
/-- The list for a free column f. -/
def kv (R : Nat → Nat → Nat) (p : Nat → Nat) (k f j : Nat) : Nat := if j = f then 1 else pp p k (fun i => R i f) j
theorem kv_el {R : Nat → Nat → Nat} (hR : El2 R) (p : Nat → Nat) (k f : Nat) : El (kv R p k f) := fun j => by unfold kv; split; decide; exact pp_el p k (fun i => hR i f) j
theorem Rdf.kv {R : Nat → Nat → Nat} (hR : El2 R) {r k c f : Nat} {p : Nat → Nat} (h : Rdf R r k p) (hc : ∀ i, i < k → p i < c) (hf : pvt p k f = false) (hfc : f < c) : ∀ i, i < r → dt (R i) (kv R p k f) c = 0 := by
 intro i hi
 have e : dt (R i) (Go.Proofs.Ytokdejhbjoglcaa.kv R p k f) c = dt (R i) (fun j => dl f j ^^^ pp p k (fun i => R i f) j) c := qgy (fun j _ => by
  unfold Go.Proofs.Ytokdejhbjoglcaa.kv
  by_cases e : j = f
  ·rw [if_pos e, e, qca, pp_free _ hf]
   rfl
  ·rw [if_neg e, qg4 e, Nat.zero_xor])
 rw [e, dt_add, dt_pp (hR i) hc]
 have e1 : dt (R i) (dl f) c = R i f := by
  unfold dt
  rw [qbk hfc (fun j _ hne => by rw [qg4 hne, qa4]), qca, qao _ (hR i f)]
 rw [e1]
 by_cases hik : i < k
 ·rw [qbk hik (fun t ht hne => by rw [h.off t i ht hi (Ne.symm hne), qad]), h.one i hik, qat _ (hR i f), Nat.xor_self]
 ·rw [h.nul i f (by omega) hi, Nat.zero_xor]
  exact qab (fun t ht => by rw [h.nul i _ (by omega) hi, qad])
/-- Row i is no combination of the rows above it. -/
def Fst (M : Nat → Nat → Nat) (i : Nat) : Prop := ¬ Spn M i (M i)
/-- Reduced, square and of full rank: the identity. -/
theorem Rdf.full {R : Nat → Nat → Nat} {n : Nat} {p : Nat → Nat} (h : Rdf R n n p) (hc : ∀ i, i < n → p i < n) : ∀ i j, i < n → j < n → R i j = dl i j := by
 have hp := qcp (p := p) (q := fun i => i) (k := n) (l := n) h.up (fun i t hi _ => hi) (fun i hi => ⟨p i, hc i hi, rfl⟩) (fun j hj => by
  have e := (cnt_pvt h.up hc).1
  have h2 := cnt_not (pvt p n) n
  cases hv : pvt p n j with
  | true =>
   obtain ⟨i, hi, e⟩ := (qb2 p n j).1 hv
   exact ⟨i, hi, e.symm⟩
  | false =>
   have := cnt_lt (P := fun j => !pvt p n j) hj (by simp [hv])
   omega)
 intro i j hi hj
 by_cases e : j = i
 ·subst e
  rw [qca]
  have := h.one j hj
  rwa [hp.2 j hj] at this
 ·rw [qg4 e]
  have := h.off j i hj hi (fun e2 => e e2.symm)
  rwa [hp.2 j hj] at this
end Go.Proofs.Ytokdejhbjoglcaa
