/-
  Choices of k of n, one after the other.
  How many choices of k of n there are.
  Rows are independent just if the checks' columns at all other places are.
  Contract of the generators' reference: Choose.
  Contracts of the program's build: tooManyChoices, areIndependent, goOn.
-/
import Derived.Test.YtblfldjlehjnbaaGa
import Derived.Test.YtblfldjlehjnbaaGv
import Derived.Test.YtblfldjlehjnbaaGt
import Derived.Lib.MinMax
namespace Go.Proofs.Ytblfldjlehjnbaa
/-- k numbers below n, rising. -/
def Inc (q : Nat → Nat) (k n : Nat) : Prop := (∀ i t, i < t → t < k → q i < q t) ∧ ∀ i, i < k → q i < n
/-- The choice as a number. -/
def vl (n : Nat) (q : Nat → Nat) : Nat → Nat
  | 0 => 0
  | k + 1 => vl n q k * n + q k
theorem vl_le {n : Nat} {q s : Nat → Nat} {k : Nat} (h : ∀ i, i < k → q i ≤ s i) : vl n q k ≤ vl n s k := by
  induction k with
  | zero => exact Nat.le_refl _
  | succ k ih => exact Nat.add_le_add (Nat.mul_le_mul_right n (ih (fun i hi => h i (by omega)))) (h k (by omega))
theorem vl_congr {n : Nat} {q s : Nat → Nat} {k : Nat} (h : ∀ i, i < k → q i = s i) : vl n q k = vl n s k :=
  Nat.le_antisymm (vl_le (fun i hi => Nat.le_of_eq (h i hi))) (vl_le (fun i hi => Nat.le_of_eq (h i hi).symm))
theorem vl_lex {n : Nat} {q s : Nat → Nat} {i : Nat} : ∀ {k : Nat}, i < k → (∀ t, t < i → q t = s t) → q i < s i → (∀ t, t < k → q t < n) → vl n q k < vl n s k := by
  intro k
  induction k with
  | zero => intro h; omega
  | succ k ih =>
    intro hi he hl hq
    show vl n q k * n + q k < vl n s k * n + s k
    by_cases e : i = k
    · subst e
      rw [vl_congr he]
      omega
    · have h1 := ih (by omega) he hl (fun t ht => hq t (by omega))
      have h2 := Nat.mul_le_mul_right n (show vl n q k + 1 ≤ vl n s k from h1)
      rw [Nat.add_mul, Nat.one_mul] at h2
      have := hq k (by omega)
      omega
theorem vl_first {n : Nat} {q s : Nat → Nat} : ∀ {k : Nat}, vl n q k < vl n s k → (∀ t, t < k → s t < n) → ∃ i, i < k ∧ (∀ t, t < i → q t = s t) ∧ q i < s i := by
  intro k h hs
  apply Classical.byContradiction
  intro hno
  have step : ∀ m, m ≤ k → (∀ t, t < m → q t = s t) ∨ ∃ i, i < m ∧ (∀ t, t < i → q t = s t) ∧ s i < q i := by
    intro m
    induction m with
    | zero => intro _; exact .inl (fun t ht => by omega)
    | succ m ih =>
      intro hm
      rcases ih (by omega) with h1 | ⟨i, a, b, c⟩
      · rcases Nat.lt_trichotomy (q m) (s m) with h2 | h2 | h2
        · exact absurd ⟨m, by omega, h1, h2⟩ hno
        · refine .inl (fun t ht => ?_)
          by_cases e : t = m
          · rw [e]; exact h2
          · exact h1 t (by omega)
        · exact .inr ⟨m, by omega, h1, h2⟩
      · exact .inr ⟨i, by omega, b, c⟩
  rcases step k (Nat.le_refl _) with h1 | ⟨i, a, b, c⟩
  · rw [vl_congr h1] at h; omega
  · have := vl_lex a (fun t ht => (b t ht).symm) c hs
    omega
theorem vl_same {n : Nat} {q s : Nat → Nat} {k : Nat} (hq : ∀ t, t < k → q t < n) (hs : ∀ t, t < k → s t < n) (h : vl n q k = vl n s k) : ∀ t, t < k → q t = s t := by
  intro t
  induction t using Nat.strongRecOn with
  | ind t ih =>
    intro ht
    rcases Nat.lt_trichotomy (q t) (s t) with h2 | h2 | h2
    · have := vl_lex ht (fun a ha => ih a ha (by omega)) h2 hq; omega
    · exact h2
    · have := vl_lex ht (fun a ha => (ih a ha (by omega)).symm) h2 hs; omega
theorem vl_lt {n : Nat} {q : Nat → Nat} : ∀ {k : Nat}, (∀ t, t < k → q t < n) → vl n q k < n ^ k := by
  intro k
  induction k with
  | zero => intro _; exact Nat.one_pos
  | succ k ih =>
    intro h
    have h1 := ih (fun t ht => h t (by omega))
    have h2 := Nat.mul_le_mul_right n (show vl n q k + 1 ≤ n ^ k from h1)
    rw [Nat.add_mul, Nat.one_mul] at h2
    have := h k (by omega)
    rw [Nat.pow_succ]
    show vl n q k * n + q k < _
    omega
theorem Inc.apart {q : Nat → Nat} {k n : Nat} (h : Inc q k n) {i : Nat} : ∀ d, i + d < k → q i + d ≤ q (i + d) := by
  intro d
  induction d with
  | zero => intro _; exact Nat.le_refl _
  | succ d ih =>
    intro hd
    have h1 := ih (by omega)
    have h2 := h.1 (i + d) (i + (d + 1)) (by omega) hd
    omega
theorem Inc.ge {q : Nat → Nat} {k n : Nat} (h : Inc q k n) {i : Nat} (hi : i < k) : i ≤ q i := by
  have := h.apart (i := 0) i (by omega)
  rw [Nat.zero_add] at this
  omega
theorem Inc.le {q : Nat → Nat} {k n : Nat} (h : Inc q k n) {i : Nat} (hi : i < k) : q i + k ≤ n + i := by
  have h1 := h.apart (i := i) (k - 1 - i) (by omega)
  have h2 := h.2 (i + (k - 1 - i)) (by omega)
  omega
theorem inc_first {k n : Nat} (h : k ≤ n) : Inc (fun i => i) k n := ⟨fun _ _ h _ => h, fun i hi => by show i < n; omega⟩
theorem Inc.first {s : Nat → Nat} {k n : Nat} (h : Inc s k n) : vl n (fun i => i) k ≤ vl n s k := vl_le (fun _ hi => h.ge hi)
theorem Inc.last {q s : Nat → Nat} {k n : Nat} (hs : Inc s k n) (hq : ∀ t, t < k → q t + k = n + t) : vl n s k ≤ vl n q k := vl_le (fun t ht => by have := hs.le ht; have := hq t ht; omega)
theorem vl_le_of {n : Nat} {q s : Nat → Nat} {i k : Nat} (hi : i < k) (he : ∀ t, t < i → s t = q t) (hl : s i ≤ q i) (hs : ∀ t, t < k → s t < n) (ht : ∀ t, i < t → t < k → s t ≤ q t) : vl n s k ≤ vl n q k := by
  by_cases e : s i = q i
  · refine vl_le (fun t htk => ?_)
    rcases Nat.lt_trichotomy t i with h1 | h1 | h1
    · exact Nat.le_of_eq (he t h1)
    · rw [h1]; exact hl
    · exact ht t h1 htk
  · exact Nat.le_of_lt (vl_lex hi he (by omega) hs)
/-- The next one: row i rises by one, and those behind it follow. -/
def nxt (q : Nat → Nat) (i t : Nat) : Nat := if t < i then q t else q i + 1 + (t - i)
theorem Inc.next {q : Nat → Nat} {k n i : Nat} (h : Inc q k n) (hi : i < k) (hl : q i + k < n + i) (hq : ∀ t, i < t → t < k → q t + k = n + t) :
    Inc (nxt q i) k n ∧ vl n q k < vl n (nxt q i) k ∧ ∀ s, Inc s k n → vl n s k < vl n (nxt q i) k → vl n s k ≤ vl n q k := by
  have lo : ∀ t, t < i → nxt q i t = q t := fun t ht => if_pos ht
  have hh : ∀ t, i ≤ t → nxt q i t = q i + 1 + (t - i) := fun t ht => if_neg (by omega)
  have hI : Inc (nxt q i) k n := by
    refine ⟨fun a t hat ht => ?_, fun t ht => ?_⟩
    · by_cases h1 : t < i
      · rw [lo a (by omega), lo t h1]
        exact h.1 a t hat ht
      · rw [hh t (by omega)]
        by_cases h2 : a < i
        · rw [lo a h2]
          have := h.1 a i h2 hi
          omega
        · rw [hh a (by omega)]
          omega
    · by_cases h1 : t < i
      · rw [lo t h1]; exact h.2 t ht
      · rw [hh t (by omega)]
        omega
  refine ⟨hI, vl_lex hi (fun t ht => (lo t ht).symm) (by rw [hh i (Nat.le_refl _)]; omega) h.2, fun s hs hlt => ?_⟩
  obtain ⟨d, hd, he, hsd⟩ := vl_first hlt hI.2
  rcases Nat.lt_trichotomy d i with h1 | h1 | h1
  · exact Nat.le_of_lt (vl_lex hd (fun t ht => by rw [he t ht, lo t (by omega)]) (by rw [lo d h1] at hsd; exact hsd) hs.2)
  · subst h1
    rw [hh d (Nat.le_refl _)] at hsd
    refine vl_le_of (q := q) hd (fun t ht => by rw [he t ht, lo t ht]) (by omega) hs.2 (fun t h1 h2 => ?_)
    have := hs.le h2
    have := hq t h1 h2
    omega
  · rw [hh d (by omega)] at hsd
    have h2 := he i h1
    rw [hh i (Nat.le_refl _)] at h2
    have h3 := hs.apart (i := i) (d - i) (by omega)
    rw [show i + (d - i) = d by omega] at h3
    omega
end Go.Proofs.Ytblfldjlehjnbaa

namespace Go.Proofs.Ytblfldjlehjnbaa
def bin : Nat → Nat → Nat
  | _, 0 => 1
  | 0, _ + 1 => 0
  | n + 1, k + 1 => bin n (k + 1) + bin n k
theorem bin_zero (n : Nat) : bin n 0 = 1 := by cases n <;> rfl
theorem bin_none (k : Nat) : bin 0 (k + 1) = 0 := rfl
theorem bin_succ (n k : Nat) : bin (n + 1) (k + 1) = bin n (k + 1) + bin n k := rfl
theorem bin_above : ∀ n k, n < k → bin n k = 0 := by
  intro n
  induction n with
  | zero => intro k h; obtain ⟨j, rfl⟩ : ∃ j, k = j + 1 := ⟨k - 1, by omega⟩; rfl
  | succ n ih =>
    intro k h
    obtain ⟨j, rfl⟩ : ∃ j, k = j + 1 := ⟨k - 1, by omega⟩
    rw [bin_succ, ih _ (by omega), ih _ (by omega)]
theorem bin_self : ∀ n, bin n n = 1 := by
  intro n
  induction n with
  | zero => rfl
  | succ n ih => rw [bin_succ, ih, bin_above n (n + 1) (by omega)]
theorem bin_step : ∀ n k, bin n (k + 1) * (k + 1) = bin n k * (n - k) := by
  intro n
  induction n with
  | zero => intro k; rw [bin_none, Nat.zero_mul, Nat.zero_sub, Nat.mul_zero]
  | succ n ih =>
    intro k
    cases k with
    | zero =>
      rw [bin_succ, bin_zero, bin_zero]
      have := ih 0
      rw [bin_zero] at this
      omega
    | succ k =>
      rw [bin_succ, bin_succ n k, Nat.add_mul]
      have h1 := ih (k + 1)
      have h2 := ih k
      rw [h1]
      have h3 : bin n (k + 1) * (k + 1 + 1) = bin n k * (n - k) + bin n (k + 1) := by rw [Nat.mul_add, Nat.mul_one, h2]
      rw [h3, show n + 1 - (k + 1) = n - k by omega, Nat.add_mul]
      by_cases h : k + 1 ≤ n
      · have : bin n (k + 1) * (n - k) = bin n (k + 1) * (n - (k + 1)) + bin n (k + 1) := by
          rw [show n - k = n - (k + 1) + 1 by omega, Nat.mul_add, Nat.mul_one]
        omega
      · rw [bin_above n (k + 1) (by omega), Nat.zero_mul, Nat.zero_mul]
        omega
theorem bin_symm : ∀ n k, k ≤ n → bin n k = bin n (n - k) := by
  intro n
  induction n with
  | zero => intro k h; obtain rfl : k = 0 := (by omega); rfl
  | succ n ih =>
    intro k h
    cases k with
    | zero => rw [bin_zero, Nat.sub_zero, bin_self]
    | succ k =>
      by_cases e : k = n
      · subst e
        rw [bin_self, Nat.sub_self, bin_zero]
      · rw [show n + 1 - (k + 1) = n - (k + 1) + 1 by omega, bin_succ, bin_succ, ih (k + 1) (by omega), ih k (by omega), show n - k = n - (k + 1) + 1 by omega]
        omega
/-- Cut off at M. -/
theorem min_sum (M a b : Nat) : min M (min M a + min M b) = min M (a + b) := by omega
end Go.Proofs.Ytblfldjlehjnbaa

namespace Go.Proofs.Ytblfldjlehjnbaa
open Go.RowKit
/-- A square matrix has full rank just if it sends nothing else to nothing. -/
theorem rk_ker {M : Nat → Nat → Nat} (hM : El2 M) {k : Nat} (hc : ∀ i j, i < k → k ≤ j → M i j = 0) : Rk M k k ↔ ∀ x, El x → (∀ i, i < k → dt (M i) x k = 0) → ∀ j, j < k → x j = 0 := by
  constructor
  · intro h x hx h0 j hj
    obtain ⟨A, hA, hL, _⟩ := inv_ex hM hc h
    rw [← dt_dl hj hx, ← dt_congr (fun t ht => hL j t hj ht), dt_pr hA hM k k j x]
    exact xs_zero fun t ht => by
      show fm (A j t) (dt (M t) x k) = 0
      rw [h0 t ht]
      exact fm_zero _
  · exact fun h => rk_of_ker hM hc h
theorem rk_tp {M : Nat → Nat → Nat} (hM : El2 M) {k : Nat} (hc : ∀ i j, i < k → k ≤ j → M i j = 0) : Rk M k k ↔ Rk (tpo M k) k k := by
  constructor
  · intro h
    obtain ⟨l, hl⟩ := rk_ex (tpo_el hM k) k
    have := rk_tpo hc h hl
    subst this
    exact hl
  · intro h
    obtain ⟨l, hl⟩ := rk_ex hM k
    have := rk_tpo hc hl h
    subst this
    exact hl
/-- All choices of as many rows as columns are independent. -/
def AI (F : Nat → Nat) (r c : Nat) : Prop := ∀ q, Inc q c r → Rk (m2 (pkf F q c) c c) c c
theorem pvt_iff5 {p : Nat → Nat} {k l : Nat} : pvt p k l = true ↔ ∃ i, i < k ∧ p i = l := by
  unfold pvt
  simp
/-- Two choices that have each place once. -/
def Cmp (q : Nat → Nat) (c : Nat) (p : Nat → Nat) (k r : Nat) : Prop := ∀ l, l < r → pvt p k l = !pvt q c l
theorem cmp_ex {q : Nat → Nat} {c k r : Nat} (hq : Inc q c r) (hk : c + k = r) : ∃ p, Inc p k r ∧ Cmp q c p k r := by
  have hcnt : cnt (fre q c) r = k := by have := cnt_free hq.1 hq.2; have e : cnt (fre q c) r = cnt (fun j => !pvt q c j) r := rfl; omega
  refine ⟨nth (fre q c) r, ⟨fun i t hit htk => nth_up hit (by rw [hcnt]; exact htk), fun i hi => (nth_spec (fre q c) r i (by rw [hcnt]; exact hi)).1⟩, fun l hl => ?_⟩
  cases h : pvt q c l with
  | false =>
    have hf : fre q c l = true := by unfold fre; rw [h]; rfl
    exact pvt_iff5.mpr ⟨cnt (fre q c) l, by rw [← hcnt]; exact cnt_lt hl hf, nth_cnt hl hf⟩
  | true =>
    cases h2 : pvt (nth (fre q c) r) k l with
    | false => rfl
    | true =>
      obtain ⟨i, hi, e⟩ := pvt_iff5.mp h2
      have := (nth_spec (fre q c) r i (by rw [hcnt]; exact hi)).2.1
      rw [e] at this
      unfold fre at this
      rw [h] at this
      cases this
theorem Cmp.symm {q p : Nat → Nat} {c k r : Nat} (h : Cmp q c p k r) : Cmp p k q c r := fun l hl => by rw [h l hl]; simp
theorem cmp_sum {q p f : Nat → Nat} {c k r : Nat} (hp : Inc p k r) (hC : Cmp q c p k r) (h0 : ∀ i, i < c → f (q i) = 0) : xs f r = xs (fun i => f (p i)) k := by
  obtain ⟨h1, h2⟩ := cnt_pvt hp.1 hp.2
  have h3 := xs_nth (pvt p k) f r (fun j hj hf => by
    have := hC j hj
    rw [hf] at this
    have hq : pvt q c j = true := by cases h : pvt q c j with
      | true => rfl
      | false => rw [h] at this; cases this
    obtain ⟨i, hi, e⟩ := pvt_iff5.mp hq
    rw [← e]
    exact h0 i hi)
  rw [h3, h1]
  exact xs_congr fun i hi => by rw [h2 i hi]
theorem full_ker {F x : Nat → Nat} {r c n : Nat} (hF : ∀ i, i < n → F i < 256) (R : Rt r c n) (hk : Rk (m2 F r c) r c) (hx : El x) (h0 : ∀ l, l < r → dt (m2 F r c l) x c = 0) : ∀ j, j < c → x j = 0 := by
  have R2 : Rt c r n := ⟨R.c64, R.r64, by rw [Nat.mul_comm]; exact R.len⟩
  have he := m2_el (trf_el4 hF R) R2
  obtain ⟨l, hl⟩ := rk_ex he c
  have e := rk_turn R hk hl
  subst e
  refine hl.ind he x hx (fun j => ?_)
  by_cases hj : j < r
  · rw [← h0 j hj]
    refine xs_congr fun t ht => ?_
    rw [m2_trf F t j ht hj, fm_comm _ _ (hx t) (by rw [m2_at _ hj ht]; exact hF _ (R.at hj ht))]
  · exact xs_zero fun t ht => by rw [m2_cut _ (by omega)]; exact fm_zero _
/-- Rows of the generator; columns of the checks at all other places. -/
theorem dual_one {F H q p : Nat → Nat} {r c kr n : Nat} (hF : ∀ i, i < n → F i < 256) (R : Rt r c n) (hH : ∀ i, i < kr * r → H i < 256) (hk : c + kr = r) (hfull : Rk (m2 F r c) r c)
    (hck : ∀ Y : Nat → Nat, (∀ i, i < r → Y i < 256) → ((∀ u, u < kr → apf H Y r u = 0) ↔ Spn (m2 (trf F r c) c r) c (ext0 Y r))) (hq : Inc q c r) (hp : Inc p kr r) (hC : Cmp q c p kr r) :
    Rk (m2 (pkf F q c) c c) c c ↔ Rk (m2 (pkf (trf H kr r) p kr) kr kr) kr kr := by
  have hr64 := R.r64
  have RH : Rt kr r (kr * r) := ⟨by omega, R.r64, rfl⟩
  have RT : Rt r kr (kr * r) := ⟨R.r64, by omega, by rw [Nat.mul_comm]⟩
  have hT := trf_el4 hH RH
  have e1 := m2_el (pkf_el hF R hq.2) (⟨R.c64, R.c64, rfl⟩ : Rt c c (c * c))
  have e2 := m2_el (pkf_el hT RT hp.2) (⟨by omega, by omega, rfl⟩ : Rt kr kr (kr * kr))
  have hM2 : ∀ i u, i < kr → u < kr → m2 (pkf (trf H kr r) p kr) kr kr i u = H (u * r + p i) := fun i u hi hu => by
    rw [m2_pick5 RT hp.2 hi, m2_trf H (p i) u (hp.2 i hi) hu, m2_at _ hu (hp.2 i hi)]
  rw [rk_ker e1 (fun i j _ hj => m2_cut _ hj), rk_tp e2 (fun i j _ hj => m2_cut _ hj), rk_ker (tpo_el e2 kr) (fun i j _ hj => if_neg (by omega))]
  have hS : ∀ Y u, u < kr → (∀ i, i < c → Y (q i) = 0) → apf H Y r u = dt (tpo (m2 (pkf (trf H kr r) p kr) kr kr) kr u) (fun i => Y (p i)) kr := fun Y u hu h0 => by
    have h1 := cmp_sum (f := fun l => fm (H (u * r + l)) (Y l)) hp hC (fun i hi => by rw [h0 i hi]; exact fm_zero _)
    refine h1.trans (xs_congr fun i hi => ?_)
    dsimp only
    unfold tpo
    rw [if_pos hi, hM2 i u hi hu]
  constructor
  · intro h z hz h0 j hj
    -- the list that is z at p's places
    obtain ⟨Y, hY8, hYp, hYq⟩ : ∃ Y : Nat → Nat, (∀ i, Y i < 256) ∧ (∀ i, i < kr → Y (p i) = z i) ∧ ∀ i, i < c → Y (q i) = 0 := by
      refine ⟨fun l => if pvt p kr l = true then z (cnt (pvt p kr) l) else 0, fun l => ?_, fun i hi => ?_, fun i hi => ?_⟩
      · dsimp only
        split
        · exact hz _
        · decide
      · have hpi : pvt p kr (p i) = true := pvt_iff5.mpr ⟨i, hi, rfl⟩
        dsimp only
        rw [if_pos hpi]
        congr 1
        obtain ⟨h1, h2⟩ := cnt_pvt hp.1 hp.2
        have h3 := nth_spec (pvt p kr) r i (by rw [h1]; exact hi)
        rw [h2 i hi] at h3
        exact h3.2.2
      · have hqi : pvt q c (q i) = true := pvt_iff5.mpr ⟨i, hi, rfl⟩
        have := hC (q i) (hq.2 i hi)
        rw [hqi] at this
        dsimp only
        rw [this]
        rfl
    have hz0 : ∀ u, u < kr → apf H Y r u = 0 := fun u hu => by
      rw [hS Y u hu hYq, dt_congr2 (z := z) (fun i hi => hYp i hi)]
      exact h0 u hu
    obtain ⟨a, ha, e⟩ := (hck Y (fun i _ => hY8 i)).mp hz0
    have hYl : ∀ l, l < r → Y l = dt (m2 F r c l) a c := fun l hl => by
      have h1 := e l
      unfold ext0 at h1
      rw [if_pos hl] at h1
      rw [h1]
      refine xs_congr fun t ht => ?_
      rw [m2_trf F t l ht hl, m2_at _ hl ht, fm_comm _ _ (ha t) (hF _ (R.at hl ht))]
    have ha0 := h a ha (fun i hi => by rw [m2_pick5 R hq.2 hi, ← hYl _ (hq.2 i hi)]; exact hYq i hi)
    rw [← hYp j hj, hYl _ (hp.2 j hj)]
    exact xs_zero fun t ht => by rw [ha0 t ht]; exact fm_zero _
  · intro h x hx h0 j hj
    have hY8 : ∀ i, i < r → apf F x c i < 256 := fun i hi => apf_lt x hF R i hi
    have hYq : ∀ i, i < c → apf F x c (q i) = 0 := fun i hi => by
      rw [apf_dt (r := r) (q i) (hq.2 i hi), ← m2_pick5 R hq.2 hi]
      exact h0 i hi
    have hz0 := (hck (apf F x c) hY8).mpr (apf_spn hF R (fun i _ => hx i))
    have hz := h (fun i => if i < kr then apf F x c (p i) else 0) (fun i => by dsimp only; split; exact hY8 _ (hp.2 _ (by assumption)); decide) (fun u hu => by
      rw [dt_congr2 (z := fun i => apf F x c (p i)) (fun i hi => if_pos hi), ← hS (apf F x c) u hu hYq]
      exact hz0 u hu)
    -- the list is nothing at all
    have hall : ∀ l, l < r → apf F x c l = 0 := fun l hl => by
      cases hl2 : pvt p kr l with
      | true =>
        obtain ⟨i, hi, e⟩ := pvt_iff5.mp hl2
        have := hz i hi
        rw [if_pos hi, e] at this
        exact this
      | false =>
        have := hC l hl
        rw [hl2] at this
        have hq2 : pvt q c l = true := by cases h : pvt q c l with
          | true => rfl
          | false => rw [h] at this; cases this
        obtain ⟨i, hi, e⟩ := pvt_iff5.mp hq2
        rw [← e]
        exact hYq i hi
    exact full_ker hF R hfull hx (fun l hl => by rw [← apf_dt (r := r) l hl]; exact hall l hl) j hj
theorem dual_all {F H : Nat → Nat} {r c kr n : Nat} (hF : ∀ i, i < n → F i < 256) (R : Rt r c n) (hH : ∀ i, i < kr * r → H i < 256) (hk : c + kr = r) (hfull : Rk (m2 F r c) r c)
    (hck : ∀ Y : Nat → Nat, (∀ i, i < r → Y i < 256) → ((∀ u, u < kr → apf H Y r u = 0) ↔ Spn (m2 (trf F r c) c r) c (ext0 Y r))) : AI F r c ↔ AI (trf H kr r) r kr := by
  constructor
  · intro h p hp
    obtain ⟨q, hq, hC⟩ := cmp_ex hp (show kr + c = r by omega)
    exact (dual_one hF R hH hk hfull hck hq hp hC.symm).mp (h q hq)
  · intro h q hq
    obtain ⟨p, hp, hC⟩ := cmp_ex hq hk
    exact (dual_one hF R hH hk hfull hck hq hp hC).mpr (h p hp)
theorem ai_sing {F : Nat → Nat} {r c n t : Nat} (hF : ∀ i, i < n → F i < 256) (R : Rt r c n) (hcr : c ≤ r) (hk : Rk (m2 F r c) r t) (ht : t < c) : ¬ AI F r c := fun h => by
  have h1 := h (fun i => i) (inc_first hcr)
  have e1 : El2 (m2 F r c) := m2_el hF R
  have hle : Le (m2 (pkf F (fun i => i) c) c c) c (m2 F r c) r := fun i hi => by
    rw [m2_pick5 R (q := fun i => i) (fun j hj => by show j < r; omega) hi]
    exact spn_row e1 (by omega)
  have h2 := Rk.mono hk h1 hle
  omega
end Go.Proofs.Ytblfldjlehjnbaa

namespace Go.Proofs.Ytblfldjlehjnbaa
open Go.RowKit
/-- A row of Pascal's triangle cut off at M, from place j on already the next one. -/
def psc (M i j t : Nat) : Nat := if j < t then min M (bin (i + 1) t) else min M (bin i t)
theorem psc_step {M i j : Nat} (t : Nat) : (if t = j + 1 then min M (psc M i (j + 1) (j + 1) + psc M i (j + 1) j) else psc M i (j + 1) t) = psc M i j t := by
  unfold psc
  by_cases e : t = j + 1
  · subst e
    rw [if_pos rfl, if_neg (by omega), if_neg (by omega), if_pos (by omega), bin_succ, min_sum]
  · rw [if_neg e]
    by_cases h : j + 1 < t
    · rw [if_pos h, if_pos (by omega)]
    · rw [if_neg h, if_neg (by omega)]
theorem psc_zero (M i t : Nat) : psc M i 0 t = min M (bin (i + 1) t) := by
  unfold psc
  by_cases h : 0 < t
  · rw [if_pos h]
  · obtain rfl : t = 0 := by omega
    rw [if_neg h, bin_zero, bin_zero]
theorem psc_top (M i k t : Nat) (ht : t ≤ k) : psc M i k t = min M (bin i t) := if_neg (by omega)
set_option maxRecDepth 20000 in
set_option maxHeartbeats 2000000 in
theorem rchoose_any (w : World) (n k L M R : Nat) (hn : n ≤ 64) (hk : k ≤ 64) (hL : L ≤ 1000000) (HM : Hid (L + 1 = M)) (HR : Hid (min M (bin n k) = R)) :
    Calls Try.prog 67 #[.int .i64 (n : Int), .int .i64 (k : Int), .int .i64 (L : Int)] w fun e w' => e = .returned (.int .i64 (R : Int)) ∧ Below w.heap.size w w' := by
  obtain ⟨i0, hi0, hz0, hz1, hz2⟩ := info_parts infoI
  have hml : k + 1 ≤ maxLen := by unfold maxLen; omega
  have hM := HM.out
  have e1 : IntKind.i64.wrap ((k : Int) + 1) = ((k + 1 : Nat) : Int) := by rw [IntKind.wrap_i64]; omega
  go_enter Try.func67, Try.ntmps67
  go_wp2_with (at_make; refine wpList_make_full _ rfl _ _ 43 rfl w.heap.size 3 i0 (.int .i64 0) 1 Try.underlying43 hi0 hz0 hz1 .i64 .i64 _ _ (k + 1) rfl rfl rfl rfl (by rw [hz2]; omega) hml (Nat.le_refl _) ?_; intro w1 hown hgrow; have HO1 : Hid (IRowAt w1 w.heap.size (k + 1) (fun _ => 0)) := made_iat hown; have HB1 : Hid (Below w.heap.size w w1) := grown_none.mp hgrow; have g0 := HO1.out.cell 0 (by omega); have f0 := HO1.out.free 0; clear hown hgrow)
  have HI0 : Hid (IRowAt (w1.setCell ⟨w.heap.size, 0, none⟩ (.int .i64 1)) w.heap.size (k + 1) (fun t => min M (bin 0 t))) := (HO1.out.set 0 1).congr (fun t ht => by
    by_cases e : t = 0
    · rw [if_pos e, e, bin_zero]; omega
    · rw [if_neg e, bin_above 0 t (by omega)]; omega)
  have HB2 : Hid (Below w.heap.size w (w1.setCell ⟨w.heap.size, 0, none⟩ (.int .i64 1))) := HB1.out.setCell (Nat.le_refl _) _
  clear HO1 HB1 g0 f0
  go_loopw [8] (fun si wr => ∃ i : Nat, i ≤ n ∧ si = .int .i64 (i : Int) ∧ IRowAt wr w.heap.size (k + 1) (fun t => min M (bin i t)) ∧ Below w.heap.size w wr) (fun si _ => n - (intOf si).toNat)
  case atStart => exact ⟨0, by omega, rfl, HI0.out, HB2.out⟩
  case round =>
    clear HI0 HB2
    obtain ⟨i, hi, rfl, I, hb⟩ := hrel
    have HI : Hid (IRowAt wr w.heap.size (k + 1) (fun t => min M (bin i t))) := I
    have HB : Hid (Below w.heap.size w wr) := hb
    clear hb
    by_cases hlt : i < n
    · clear I
      go_wp2
      go_loopw [9] (fun sj wr => ∃ j : Nat, j ≤ k ∧ sj = .int .i64 (j : Int) ∧ IRowAt wr w.heap.size (k + 1) (psc M i j) ∧ Below w.heap.size w wr) (fun sj _ => (intOf sj).toNat)
      case atStart => exact ⟨k, by omega, rfl, HI.out.congr (fun t ht => (psc_top M i k t (by omega)).symm), HB.out⟩
      case round =>
        clear HI HB
        obtain ⟨j', hj, rfl, I, hb⟩ := hrel
        cases j' with
        | zero =>
          have HI : Hid (IRowAt wr w.heap.size (k + 1) (psc M i 0)) := I
          have HB : Hid (Below w.heap.size w wr) := hb
          clear I hb
          go_wp2
          exact ⟨⟨i + 1, by omega, by go_num, HI.out.congr (fun t _ => psc_zero M i t), HB.out⟩, by simp [intOf]; omega⟩
        | succ j =>
          · obtain ⟨x, HX⟩ : ∃ x, Hid (psc M i (j + 1) (j + 1) = x) := ⟨_, rfl⟩
            obtain ⟨y, HY⟩ : ∃ x, Hid (psc M i (j + 1) j = x) := ⟨_, rfl⟩
            obtain ⟨v, HV⟩ : ∃ z, Hid (min M (x + y) = z) := ⟨_, rfl⟩
            have hc1 := I.cell (j + 1) (by omega)
            have hc2 := I.cell j (by omega)
            have hf := I.free (j + 1)
            rw [HX.out] at hc1
            rw [HY.out] at hc2
            have hx : x ≤ M := by rw [← HX.out]; unfold psc; split <;> omega
            have hy : y ≤ M := by rw [← HY.out]; unfold psc; split <;> omega
            have hv := HV.out
            have w1' : IntKind.i64.wrap ((L : Int) + 1) = (M : Int) := by rw [IntKind.wrap_i64]; omega
            have w2' : IntKind.i64.wrap (((j + 1 : Nat) : Int) - 1) = (j : Int) := by rw [IntKind.wrap_i64]; omega
            have w3' : IntKind.i64.wrap ((x : Int) + (y : Int)) = (x : Int) + (y : Int) := by rw [IntKind.wrap_i64]; omega
            have hmn : min (M : Int) ((x : Int) + (y : Int)) = (v : Int) := by omega
            have p0 : (0 : Int) ≤ ((j + 1 : Nat) : Int) := by omega
            have p1 : ((j + 1 : Nat) : Int) < ((k + 1 : Nat) : Int) := by omega
            have p2 : (0 : Int) ≤ (j : Int) := by omega
            have p3 : (j : Int) < ((k + 1 : Nat) : Int) := by omega
            have hjk : j < k := by omega
            have hjk2 : j < k + 1 := by omega
            have hjk3 : j ≤ k := by omega
            have p5 : (j : Int) < (k : Int) + 1 := by omega
            have p4 : (0 : Int) ≤ (j : Int) + 1 := by omega
            have w5' : IntKind.i64.wrap (j : Int) = (j : Int) := by rw [IntKind.wrap_i64]; omega
            have HN1 : Hid (IRowAt (wr.drew.setCell ⟨w.heap.size, j + 1, none⟩ (.int .i64 (v : Int))) w.heap.size (k + 1) (psc M i j)) := ((I.later (Below.refl _ _).drew).set (j + 1) v).congr (fun t _ => by
              rw [← HV.out, ← HX.out, ← HY.out]
              exact psc_step t)
            have HB3 : Hid (Below w.heap.size w (wr.drew.setCell ⟨w.heap.size, j + 1, none⟩ (.int .i64 (v : Int)))) := hb.drew.setCell (Nat.le_refl _) _
            have HD : Hid (wr.drew.cell? ⟨w.heap.size, j + 1, none⟩ = some (.int .i64 (x : Int)) ∧ wr.drew.cell? ⟨w.heap.size, j, none⟩ = some (.int .i64 (y : Int))) := ⟨hc1, hc2⟩
            clear I hb hx hy hv
            go_wp2
            refine wp_region_park (k := 16) (n := 16) (fun w' => w'.cell? ⟨w.heap.size, j + 1, none⟩ = some (.int .i64 (x : Int)) ∧ w'.cell? ⟨w.heap.size, j, none⟩ = some (.int .i64 (y : Int))) (by kernel_rfl) (by kernel_rfl) (by decide) (by rfl) ?_
            refine wpAnyH_take (i := 0) (v := ?va0) rfl (by kernel_rfl) (by kernel_rfl) (by kernel_rfl) (fun _ _ _ h => h) (Or.inl ⟨by rfl, ?ya0⟩) HD.out ?za0
            case ya0 => (intro w hSw; (try dsimp only at hSw); go_simp; try with_reducible rfl)
            try simp only [List.getElem_toArray, List.getElem_cons_zero, Act.put, List.setIfInBounds_toArray, List.set_cons_zero, List.set_cons_succ]
            refine wpAnyH_take (i := 1) (v := ?va1) rfl (by kernel_rfl) (by kernel_rfl) (by kernel_rfl) (fun _ _ _ h => h) (Or.inl ⟨by rfl, ?ya1⟩) HD.out ?za1
            case ya1 => (intro w hSw; (try dsimp only at hSw); go_simp; try with_reducible rfl)
            try simp only [List.getElem_toArray, List.getElem_cons_succ, List.getElem_cons_zero, Act.put, List.setIfInBounds_toArray, List.set_cons_zero, List.set_cons_succ]
            refine wpAnyH_take (i := 2) (v := ?va2) rfl (by kernel_rfl) (by kernel_rfl) (by kernel_rfl) (fun _ _ _ h => h) (Or.inl ⟨by rfl, ?ya2⟩) HD.out ?za2
            case ya2 => (intro w hSw; (try dsimp only at hSw); go_simp; try with_reducible rfl)
            try simp only [List.getElem_toArray, List.getElem_cons_succ, List.getElem_cons_zero, Act.put, List.setIfInBounds_toArray, List.set_cons_zero, List.set_cons_succ]
            refine wpAnyH_take (i := 3) (v := ?va3) rfl (by kernel_rfl) (by kernel_rfl) (by kernel_rfl) (fun _ _ _ h => h) (Or.inl ⟨by rfl, ?ya3⟩) HD.out ?za3
            case ya3 => (intro w hSw; (try dsimp only at hSw); go_simp; try with_reducible rfl)
            try simp only [List.getElem_toArray, List.getElem_cons_succ, List.getElem_cons_zero, Act.put, List.setIfInBounds_toArray, List.set_cons_zero, List.set_cons_succ]
            refine wpAnyH_take (i := 4) (v := ?va4) rfl (by kernel_rfl) (by kernel_rfl) (by kernel_rfl) (fun _ _ _ h => h) (Or.inl ⟨by rfl, ?ya4⟩) HD.out ?za4
            case ya4 => (intro w hSw; (try dsimp only at hSw); go_simp; try with_reducible rfl)
            try simp only [List.getElem_toArray, List.getElem_cons_succ, List.getElem_cons_zero, Act.put, List.setIfInBounds_toArray, List.set_cons_zero, List.set_cons_succ]
            refine wpAnyH_take (i := 5) (v := ?va5) rfl (by kernel_rfl) (by kernel_rfl) (by kernel_rfl) (fun _ _ _ h => h) (Or.inl ⟨by rfl, ?ya5⟩) HD.out ?za5
            case ya5 => (intro w hSw; (try dsimp only at hSw); go_simp; try with_reducible rfl)
            try simp only [List.getElem_toArray, List.getElem_cons_succ, List.getElem_cons_zero, Act.put, List.setIfInBounds_toArray, List.set_cons_zero, List.set_cons_succ]
            refine wpAnyH_take (i := 6) (v := ?va6) rfl (by kernel_rfl) (by kernel_rfl) (by kernel_rfl) (fun _ _ _ h => h) (Or.inl ⟨by rfl, ?ya6⟩) HD.out ?za6
            case ya6 => (intro w hSw; (try dsimp only at hSw); go_simp; try with_reducible rfl)
            try simp only [List.getElem_toArray, List.getElem_cons_succ, List.getElem_cons_zero, Act.put, List.setIfInBounds_toArray, List.set_cons_zero, List.set_cons_succ]
            refine wpAnyH_take (i := 7) (v := ?va7) rfl (by kernel_rfl) (by kernel_rfl) (by kernel_rfl) (fun _ _ _ h => h) (Or.inl ⟨by rfl, ?ya7⟩) HD.out ?za7
            case ya7 => (intro w hSw; (try dsimp only at hSw); go_simp; try with_reducible rfl)
            try simp only [List.getElem_toArray, List.getElem_cons_succ, List.getElem_cons_zero, Act.put, List.setIfInBounds_toArray, List.set_cons_zero, List.set_cons_succ]
            refine wpAnyH_take (i := 8) (v := ?va8) rfl (by kernel_rfl) (by kernel_rfl) (by kernel_rfl) (fun _ _ _ h => h) (Or.inl ⟨by rfl, ?ya8⟩) HD.out ?za8
            case ya8 => (intro w hSw; (try dsimp only at hSw); go_simp; try with_reducible rfl)
            try simp only [List.getElem_toArray, List.getElem_cons_succ, List.getElem_cons_zero, Act.put, List.setIfInBounds_toArray, List.set_cons_zero, List.set_cons_succ]
            refine wpAnyH_take (i := 9) (v := ?va9) rfl (by kernel_rfl) (by kernel_rfl) (by kernel_rfl) (fun _ _ _ h => h) (Or.inl ⟨by rfl, ?ya9⟩) HD.out ?za9
            case ya9 => (intro w hSw; (try dsimp only at hSw); go_simp; try with_reducible rfl)
            try simp only [List.getElem_toArray, List.getElem_cons_succ, List.getElem_cons_zero, Act.put, List.setIfInBounds_toArray, List.set_cons_zero, List.set_cons_succ]
            refine wpAnyH_take (i := 10) (v := ?va10) rfl (by kernel_rfl) (by kernel_rfl) (by kernel_rfl) (fun _ _ _ h => h) (Or.inl ⟨by rfl, ?ya10⟩) HD.out ?za10
            case ya10 => (intro w hSw; (try dsimp only at hSw); go_simp; try with_reducible rfl)
            try simp only [List.getElem_toArray, List.getElem_cons_succ, List.getElem_cons_zero, Act.put, List.setIfInBounds_toArray, List.set_cons_zero, List.set_cons_succ]
            refine wpAnyH_take (i := 11) (v := ?va11) rfl (by kernel_rfl) (by kernel_rfl) (by kernel_rfl) (fun _ _ _ h => h) (Or.inl ⟨by rfl, ?ya11⟩) HD.out ?za11
            case ya11 => (intro w hSw; (try dsimp only at hSw); go_simp; try with_reducible rfl)
            try simp only [List.getElem_toArray, List.getElem_cons_succ, List.getElem_cons_zero, Act.put, List.setIfInBounds_toArray, List.set_cons_zero, List.set_cons_succ]
            refine wpAnyH_take (i := 12) (v := ?va12) rfl (by kernel_rfl) (by kernel_rfl) (by kernel_rfl) (fun _ _ _ h => h) (Or.inl ⟨by rfl, ?ya12⟩) HD.out ?za12
            case ya12 => (intro w hSw; (try dsimp only at hSw); go_simp; try with_reducible rfl)
            try simp only [List.getElem_toArray, List.getElem_cons_succ, List.getElem_cons_zero, Act.put, List.setIfInBounds_toArray, List.set_cons_zero, List.set_cons_succ]
            refine wpAnyH_take (i := 13) (v := ?va13) rfl (by kernel_rfl) (by kernel_rfl) (by kernel_rfl) (fun _ _ _ h => h) (Or.inl ⟨by rfl, ?ya13⟩) HD.out ?za13
            case ya13 => (intro w hSw; (try dsimp only at hSw); go_simp; try with_reducible rfl)
            try simp only [List.getElem_toArray, List.getElem_cons_succ, List.getElem_cons_zero, Act.put, List.setIfInBounds_toArray, List.set_cons_zero, List.set_cons_succ]
            refine wpAnyH_ready (rs := [14]) (by kernel_rfl) (by simp) ?_
            refine AllReadyH.cons rfl (fun K hK => ?_) AllReadyH.nil
            go_simp
            refine hK.out _ _ HD.out (fun _ => ?_)
            clear hK K
            try simp only [List.getElem_toArray, List.getElem_cons_succ, List.getElem_cons_zero, Act.put, List.setIfInBounds_toArray, List.set_cons_zero, List.set_cons_succ]
            refine wpAnyH_take (i := 15) (v := ?va15) rfl (by kernel_rfl) (by kernel_rfl) (by kernel_rfl) (fun _ _ _ h => h) (Or.inl ⟨by rfl, ?ya15⟩) HD.out ?za15
            case ya15 => (intro w hSw; (try dsimp only at hSw); go_simp; try with_reducible rfl)
            try simp only [List.getElem_toArray, List.getElem_cons_succ, List.getElem_cons_zero, Act.put, List.setIfInBounds_toArray, List.set_cons_zero, List.set_cons_succ]
            refine wpAnyH_done (by kernel_rfl) ?_ _
            refine park_last rfl (fun K hK => ?_)
            go_simp
            refine hK.out _ _ ?_
            clear hK K
            try simp only [List.getElem_toArray, List.getElem_cons_succ, List.getElem_cons_zero, Act.put, List.setIfInBounds_toArray, List.set_cons_zero, List.set_cons_succ]
            go_wp2
            exact ⟨⟨j, by omega, by go_num, HN1.out, HB3.out⟩, by simp [intOf]⟩
    · obtain rfl : i = n := by omega
      have gk := I.cell k (by omega)
      rw [HR.out] at gk
      clear I
      go_wp2
      go_ret
      exact ⟨rfl, HB.out⟩
end Go.Proofs.Ytblfldjlehjnbaa

namespace Go.Proofs.Ytblfldjlehjnbaa
open Go.RowKit
theorem bin_up {n j : Nat} (h : 2 * j + 1 ≤ n) : bin n j ≤ bin n (j + 1) := by
  have h1 := bin_step n j
  have h2 : bin n j * (j + 1) ≤ bin n j * (n - j) := Nat.mul_le_mul_left _ (by omega)
  rw [← h1] at h2
  exact Nat.le_of_mul_le_mul_right h2 (by omega)
theorem bin_mono {n : Nat} : ∀ {m j : Nat}, j ≤ m → 2 * m ≤ n → bin n j ≤ bin n m := by
  intro m
  induction m with
  | zero => intro j h _; rw [show j = 0 by omega]; exact Nat.le_refl _
  | succ m ih =>
    intro j h hm
    by_cases e : j = m + 1
    · rw [e]; exact Nat.le_refl _
    · exact Nat.le_trans (ih (by omega) (by omega)) (bin_up (by omega))
theorem bin_half {n c m : Nat} (hc : c ≤ n) (hm : min c (n - c) = m) : bin n c = bin n m := by
  by_cases h : c ≤ n - c
  · rw [← hm, Nat.min_eq_left h]
  · rw [← hm, Nat.min_eq_right (by omega)]
    exact bin_symm n c hc
set_option maxRecDepth 20000 in
set_option maxHeartbeats 1000000 in
theorem many_any (w : World) (n c : Nat) (hn : n ≤ 64) (hc : c ≤ n) :
    Calls Try.prog 64 #[.int .i64 (n : Int), .int .i64 (c : Int)] w fun e w' => (e = .returned (.bool true) ∧ 16384 < bin n c ∧ w = w') ∨ (e = .returned (.bool false) ∧ bin n c ≤ 16384 ∧ w = w') := by
  obtain ⟨m, HM⟩ : ∃ m, Hid (min c (n - c) = m) := ⟨_, rfl⟩
  have hm := HM.out
  have HB : Hid (bin n c = bin n m) := bin_half hc hm
  have hm2 : 2 * m ≤ n := by omega
  have e0 : IntKind.i64.wrap ((n : Int) - (c : Int)) = (n : Int) - (c : Int) := by rw [IntKind.wrap_i64]; omega
  have e1 : min (c : Int) ((n : Int) - (c : Int)) = (m : Int) := by omega
  clear hm
  go_enter Try.func64, Try.ntmps64
  go_wp2
  go_loopw [5, 6, 13] (fun sf _ si wr => ∃ i : Nat, i ≤ m ∧ si = .int .i64 (i : Int) ∧ sf = .int .i64 ((bin n i : Nat) : Int) ∧ bin n i ≤ 16384 ∧ w = wr) (fun _ _ si _ => m - (intOf si).toNat)
  case atStart => exact ⟨0, by omega, rfl, by rw [bin_zero]; rfl, by rw [bin_zero]; omega, rfl⟩
  case round =>
    obtain ⟨i, hi, rfl, rfl, hb, rfl⟩ := hrel
    by_cases hlt : i < m
    · obtain ⟨x, HX⟩ : ∃ x, Hid (bin n i = x) := ⟨_, rfl⟩
      obtain ⟨y, HY⟩ : ∃ x, Hid (bin n (i + 1) = x) := ⟨_, rfl⟩
      have hst := bin_step n i
      have hmn := bin_mono (n := n) (m := m) (j := i + 1) hlt hm2
      rw [HX.out] at hb hst ⊢
      rw [HY.out] at hst hmn
      obtain ⟨d, HD⟩ : ∃ d, Hid (n - i = d) := ⟨_, rfl⟩
      have hd := HD.out
      rw [hd] at hst
      obtain ⟨z, HZ⟩ : ∃ z, Hid (x * d = z) := ⟨_, rfl⟩
      rw [HZ.out] at hst
      have hz : z ≤ 1048576 := by rw [← HZ.out]; exact Nat.le_trans (Nat.mul_le_mul hb (show d ≤ 64 by omega)) (by decide)
      have w1' : IntKind.i64.wrap ((n : Int) - (i : Int)) = (d : Int) := by rw [IntKind.wrap_i64]; omega
      have w2' : IntKind.i64.wrap ((x : Int) * (d : Int)) = (z : Int) := by rw [← Int.natCast_mul, HZ.out, IntKind.wrap_i64]; omega
      have w3' : IntKind.i64.wrap ((i : Int) + 1) = (i : Int) + 1 := by rw [IntKind.wrap_i64]; omega
      have w4' : (z : Int).tdiv ((i : Int) + 1) = (y : Int) := by
        rw [← hst]
        have : ((y * (i + 1) : Nat) : Int) = (y : Int) * ((i : Int) + 1) := by simp
        rw [this]
        exact Int.mul_tdiv_cancel _ (by omega)
      have hy : y ≤ z := by rw [← hst]; exact Nat.le_mul_of_pos_right _ (by omega)
      have w5' : IntKind.i64.wrap (y : Int) = (y : Int) := by rw [IntKind.wrap_i64]; omega
      have nz : ¬ ((i : Int) + 1 = 0) := by omega
      by_cases hbig : 16384 < y
      · have g1 : decide (16384 < y) = true := by simpa using hbig
        have g2 : decide ((16384 : Int) < (y : Int)) = true := by simp; omega
        go_wp2
        go_ret
        exact .inl ⟨rfl, by rw [HB.out]; omega, rfl⟩
      · have g1 : decide (16384 < y) = false := by simpa using hbig
        have g2 : decide ((16384 : Int) < (y : Int)) = false := by simp; omega
        go_wp2
        exact ⟨⟨i + 1, by omega, by go_num, by rw [HY.out], by rw [HY.out]; omega, trivial⟩, by simp [intOf]; omega⟩
    · obtain rfl : i = m := by omega
      go_wp2
      go_ret
      exact .inr ⟨rfl, by rw [HB.out]; exact hb, rfl⟩
set_option maxRecDepth 20000 in
set_option maxHeartbeats 1000000 in
theorem indep_any (w : World) (r c n k d : Nat) (a b : Option Addr) (F q : Nat → Nat) (ha : Mt w a n k F) (R : Rt r c n) (hb : Il w b c (fun i => (q i : Int))) (hq : ∀ i, i < c → q i < r) :
    Calls Try.prog 66 #[mv r c a n k, .slice b c d] w fun e w' => (e = .returned (.bool true) ∧ Rk (m2 (pkf F q c) c c) c c ∧ Below w.heap.size w w') ∨ (e = .returned (.bool false) ∧ ¬ Rk (m2 (pkf F q c) c c) c c ∧ Below w.heap.size w w') := by
  obtain ⟨N, HN⟩ : ∃ N, Hid (c * c = N) := ⟨_, rfl⟩
  have HA : Hid (Mt w a n k F) := ha
  have HR : Hid (Rt r c n) := R
  have HI : Hid (Il w b c (fun i => (q i : Int))) := hb
  have hc64 := R.c64
  have HC : Hid (Rt c c N) := ⟨R.c64, R.c64, HN.out⟩
  have HPk : Hid (∀ i, i < N → pkf F q c i < 256) := by rw [← HN.out]; exact pkf_el ha.sl.1 R hq
  have hel := m2_el HPk.out HC.out
  obtain ⟨t, ht⟩ := rk_ex hel c
  have HT : Hid (Rk (m2 (pkf F q c) c c) c t) := ht
  have HEl : Hid (El2 (m2 (pkf F q c) c c)) := hel
  clear ha R hb ht hel
  by_cases htc : t = c
  · subst htc
    have g1 : ((t : Int) == (t : Int)) = true := by simp
    go_enter Try.func66, Try.ntmps66
    go_wp2_with (first
      | (go_at_call 54; refine (mpick_ok _ r t n k t d N a b F q (HA.out.later (alloc_low _ _)) HR.out (HI.out.later (alloc_low _ _)) hq hc64 HN).mono ?_; rintro e w1 ⟨g1', rfl, hr1, hg1, hb1⟩; have HM1 : Hid (Mt (w1.alloc (.cells #[.int .i64 (t : Int), .int .i64 (t : Int), .slice (some ⟨g1', 0, none⟩) N N] 24)) (some ⟨g1', 0, none⟩) N N (pkf F q t)) := (hr1.mt HPk.out).later (alloc_low _ _); have HB1 : Hid (Below w.heap.size w (w1.alloc (.cells #[.int .i64 (t : Int), .int .i64 (t : Int), .slice (some ⟨g1', 0, none⟩) N N] 24))) := two_below (two_below (alloc_low _ _) hb1) (alloc_low _ _); clear hr1 hg1 hb1)
      | (go_at_call 94; refine (grank_ok _ t t N N _ _ HM1.out HC.out).mono ?_; rintro e w2 ⟨u, rfl, hk2, hb2⟩; have eu : u = t := hk2.uniq HEl.out HT.out; subst eu; have HB2 : Hid (Below w.heap.size w w2) := two_below HB1.out hb2; clear hk2 hb2))
    go_ret
    exact .inl ⟨rfl, HT.out, HB2.out⟩
  · have hne : ((t : Int) == (c : Int)) = false := by simp; omega
    go_enter Try.func66, Try.ntmps66
    go_wp2_with (first
      | (go_at_call 54; refine (mpick_ok _ r c n k c d N a b F q (HA.out.later (alloc_low _ _)) HR.out (HI.out.later (alloc_low _ _)) hq hc64 HN).mono ?_; rintro e w1 ⟨g1', rfl, hr1, hg1, hb1⟩; have HM1 : Hid (Mt (w1.alloc (.cells #[.int .i64 (c : Int), .int .i64 (c : Int), .slice (some ⟨g1', 0, none⟩) N N] 24)) (some ⟨g1', 0, none⟩) N N (pkf F q c)) := (hr1.mt HPk.out).later (alloc_low _ _); have HB1 : Hid (Below w.heap.size w (w1.alloc (.cells #[.int .i64 (c : Int), .int .i64 (c : Int), .slice (some ⟨g1', 0, none⟩) N N] 24))) := two_below (two_below (alloc_low _ _) hb1) (alloc_low _ _); clear hr1 hg1 hb1)
      | (go_at_call 94; refine (grank_ok _ c c N N _ _ HM1.out HC.out).mono ?_; rintro e w2 ⟨u, rfl, hk2, hb2⟩; have eu : u = t := hk2.uniq HEl.out HT.out; subst eu; have HB2 : Hid (Below w.heap.size w w2) := two_below HB1.out hb2; clear hk2 hb2))
    go_ret
    exact .inr ⟨rfl, fun x => htc (HT.out.uniq HEl.out x), HB2.out⟩
theorem cpf_irow (n p c : Nat) (f h : Nat → Nat) (hp : p + c ≤ n) : ((irow n f).toList.take p ++ ((irow c h).toList ++ (irow n f).toList.drop (p + c))).toArray = irow n (cpf f h p c) := by
  have hl : ((irow n f).toList.take p).length = p := by simp [irow_size]; omega
  have hc : (irow c h).toList.length = c := by simp [irow_size]
  apply Array.ext
  · simp [irow_size]; omega
  · intro i h1 h2
    have hi : i < n := by simpa [irow_size] using h2
    have e2 : (irow n (cpf f h p c))[i] = .int .i64 (cpf f h p c i : Nat) := by simp [irow]
    rw [e2]
    simp only [List.getElem_toArray]
    unfold cpf
    by_cases ha : i < p
    · rw [List.getElem_append_left (by omega), if_neg (by omega)]
      simp [irow]
    · rw [List.getElem_append_right (by omega)]
      by_cases hb : i < p + c
      · rw [List.getElem_append_left (by omega), if_pos ⟨by omega, hb⟩]
        simp [irow, Nat.min_eq_left (show p ≤ n by omega)]
      · rw [List.getElem_append_right (by omega), if_neg (by omega)]
        simp [irow]
        congr 1
        congr 1
        omega
theorem sizeI : (Try.prog.info? 3).map (·.size) = some 1 := by kernel_rfl
theorem irow_listget (n : Nat) (f : Nat → Nat) (j : Nat) (u : Value) (h : (irow n f).toList[j]? = some u) : j < n ∧ u = .int .i64 (f j : Nat) := by
  obtain ⟨h1, h2⟩ := List.getElem?_eq_some_iff.1 h
  have hj : j < n := by simpa [irow_size] using h1
  exact ⟨hj, by rw [← h2]; simp [irow]⟩
theorem step_copy_ints {ops : Array Oper} {op : Oper} {a : Act} {w : World} {K : Act → World → Prop} {Q : Exit → Act → World → Prop} {E : Prop} (hgd : op.guard = none) (d s : Operand) (ho : op.op = .call { callee := .builtin .copy, args := #[d, s], argTypes := #[43, 43] })
    (g p n c dc sc : Nat) (sp : Option Addr) (f h : Nat → Nat) (hc : 0 < c) (hd : a.eval d = .slice (some ⟨g, p, none⟩) c dc) (hs : a.eval s = .slice sp c sc) (hr : IRowAt w g n f) (hsl : Il w sp c (fun i => (h i : Int))) (hfit : p + c ≤ n)
    (k : ∀ w', Hid (IRowAt w' g n (cpf f h p c)) → Hid (w.grownBy w' (some g)) → K (a.put op.dst (goInt c)) w') : if Region.wanted op (yielded ops a.tmps) = true then Oper.wp Try.prog op a w K Q else E := by
  have hw : Region.wanted op (yielded ops a.tmps) = true := by simp [Region.wanted, hgd]
  rw [if_pos hw]
  obtain ⟨b, o, e, _⟩ := hsl 0 hc
  subst e
  have hsrc : ∀ j v, (irow c h).toList[j]? = some v → w.cell? ((⟨b, o, none⟩ : Addr).add j) = some v := fun j v hj => by
    obtain ⟨hjn, rfl⟩ := irow_listget c h j v hj
    obtain ⟨b', o', e', hcl⟩ := hsl j hjn
    cases e'
    rw [add_plain]
    exact hcl
  have hone : ∀ u ∈ (irow c h).toList, u.oneCell' = true := fun u hu => by
    obtain ⟨j, hj⟩ := List.getElem?_of_mem hu
    rw [(irow_listget c h j u hj).2]
    rfl
  have hrun := run_copy_row (P := Try.prog) w 43 43 op.type 3 g p c dc ⟨b, o, none⟩ c sc (irow n f) 3 (irow c h).toList Try.underlying43 sizeI hr (by simp [irow_size]) hsrc (by simp [irow_size]; exact hfit) hone
  have hlen : (irow c h).toList.length = c := by simp [irow_size]
  rw [hlen, List.append_assoc, cpf_irow n p c f h hfit] at hrun
  unfold Oper.wp
  simp [execOp, ho, resolve, invoke, builtin, hd, hs, hrun, Result.andThen]
  exact k _ (setRow_heap w g _ _ _ _ hr) (grown_setRow _ _ _)
/-- The next choice, or none. -/
def NxtP (w w' : World) (e : Ending) (g k n : Nat) (q : Nat → Nat) : Prop :=
  (∃ i, e = .returned (.bool true) ∧ i < k ∧ q i + k < n + i ∧ (∀ t, i < t → t < k → q t + k = n + t) ∧ IRowAt w' g k (nxt q i) ∧ w.grownBy w' (some g)) ∨ (e = .returned (.bool false) ∧ (∀ t, t < k → q t + k = n + t) ∧ IRowAt w' g k q ∧ w.grownBy w' (some g))
theorem cpf_nxt (q : Nat → Nat) {i k b : Nat} (hb : i + b = k) : ∀ t, t < k → cpf q (fun j => q i + 1 + j) i b t = nxt q i t := fun t ht => by
  unfold cpf nxt
  by_cases h : t < i
  · rw [if_neg (by omega), if_pos h]
  · rw [if_pos (by omega), if_neg h]
set_option maxRecDepth 20000 in
set_option maxHeartbeats 2000000 in
theorem goon_any (w : World) (g k n d : Nat) (q : Nat → Nat) (hr : IRowAt w g k q) (hq : Inc q k n) (hn : n ≤ 64) (hkn : k ≤ n) (hkd : k ≤ d) :
    Calls Try.prog 93 #[.slice (some ⟨g, 0, none⟩) k d, .int .i64 (n : Int)] w fun e w' => NxtP w w' e g k n q := by
  have HR : Hid (IRowAt w g k q) := hr
  have HQ : Hid (Inc q k n) := hq
  have e0 : IntKind.i64.wrap ((k : Int) - 1) = (k : Int) - 1 := by rw [IntKind.wrap_i64]; omega
  clear hr hq
  go_enter Try.func93, Try.ntmps93
  go_wp2
  go_loopw [5, 6] (fun si _ wr => ∃ t : Nat, t ≤ k ∧ si = .int .i64 ((t : Int) - 1) ∧ (∀ u, t ≤ u → u < k → q u + k = n + u) ∧ w = wr) (fun si _ _ => (intOf si + 1).toNat)
  case atStart => exact ⟨k, Nat.le_refl _, rfl, fun u h1 h2 => by omega, rfl⟩
  case round =>
    obtain ⟨t, ht, rfl, hl, rfl⟩ := hrel
    have HL : Hid (∀ u, t ≤ u → u < k → q u + k = n + u) := hl
    clear hl
    cases t with
    | zero =>
      have z1 : ((0 : Nat) : Int) - 1 = -1 := rfl
      rw [z1]
      go_wp2
      go_ret
      exact .inr ⟨rfl, fun u hu => HL.out u (by omega) hu, HR.out, grown_self _ _⟩
    | succ i =>
      have z1 : ((i + 1 : Nat) : Int) - 1 = (i : Int) := by omega
      rw [z1]
      obtain ⟨x, HX⟩ : ∃ x, Hid (q i = x) := ⟨_, rfl⟩
      have hx64 : x < 64 := by rw [← HX.out]; exact Nat.lt_of_lt_of_le (HQ.out.2 i (by omega)) hn
      have hle := HQ.out.le (i := i) (by omega)
      rw [HX.out] at hle
      have hc := HR.out.cell i (by omega)
      rw [HX.out] at hc
      obtain ⟨b, HBh⟩ : ∃ b, Hid (i + b = k) := ⟨k - i, by show i + (k - i) = k; omega⟩
      have hb := HBh.out
      have w1' : IntKind.i64.wrap ((k : Int) - (i : Int)) = (b : Int) := by rw [IntKind.wrap_i64]; omega
      have w2' : IntKind.i64.wrap ((x : Int) + (b : Int)) = (x : Int) + (b : Int) := by rw [IntKind.wrap_i64]; omega
      have w3' : IntKind.i64.wrap ((x : Int) + 1) = (x : Int) + 1 := by rw [IntKind.wrap_i64]; omega
      have w4' : IntKind.i64.wrap ((x : Int) + 1 + (b : Int)) = (x : Int) + 1 + (b : Int) := by rw [IntKind.wrap_i64]; omega
      have w5' : IntKind.i64.wrap ((i : Int) - 1) = (i : Int) - 1 := by rw [IntKind.wrap_i64]; omega
      have p0 : (0 : Int) ≤ (i : Int) := by omega
      have p1 : (i : Int) < (k : Int) := by omega
      by_cases hgo : x + b < n
      · have g1 : decide ((x : Int) + (b : Int) < (n : Int)) = true := by simp; omega
        have hid2 : i ≤ k := by omega
        have hid3 : ¬ d = i := by omega
        have hik : k - i = b := by omega
        have HNum : Hid (∀ w', Calls Try.prog 55 #[.int .i64 ((x : Int) + 1), .int .i64 ((x : Int) + 1 + (b : Int))] w' fun e w'' => ∃ s d, e = .returned (.slice s b d) ∧ Il w'' s b (fun j => ((x + 1 + j : Nat) : Int)) ∧ Below w'.heap.size w' w'') := fun w' => by
          have h := nums_any w' (x + 1) (x + 1 + b) b rfl (by omega)
          have e1 : ((x + 1 : Nat) : Int) = (x : Int) + 1 := by simp
          have e2 : ((x + 1 + b : Nat) : Int) = (x : Int) + 1 + (b : Int) := by simp
          rw [e1, e2] at h
          exact h.mono (fun _ _ ⟨s, d, h1, h2, h3⟩ => ⟨s, d, h1, h2.il, h3⟩)
        have HD : Hid (w.drew.cell? ⟨g, i, none⟩ = some (.int .i64 (x : Int))) := hc
        go_wp2
        refine wp_region_held (S := fun _ => True) (by kernel_rfl) ?_
        change wpAnyH _ _ _ _ _ _ _ _ w.drew
        refine wpAnyH_take (i := 0) (v := ?va0) rfl (by kernel_rfl) (by kernel_rfl) (by kernel_rfl) (fun _ _ _ h => h) (Or.inl ⟨by rfl, ?ya0⟩) trivial ?za0
        case ya0 => (intro w hSw; (try dsimp only at hSw); go_simp; try with_reducible rfl)
        try simp only [List.getElem_toArray, List.getElem_cons_zero, Act.put, List.setIfInBounds_toArray, List.set_cons_zero, List.set_cons_succ]
        refine wpAnyH_take (i := 1) (v := ?va1) rfl (by kernel_rfl) (by kernel_rfl) (by kernel_rfl) (fun _ _ _ h => h) (Or.inl ⟨by rfl, ?ya1⟩) trivial ?za1
        case ya1 => (intro w hSw; (try dsimp only at hSw); go_simp; try with_reducible rfl)
        try simp only [List.getElem_toArray, List.getElem_cons_succ, List.getElem_cons_zero, Act.put, List.setIfInBounds_toArray, List.set_cons_zero, List.set_cons_succ]
        refine wpAnyH_take (i := 2) (v := ?va2) rfl (by kernel_rfl) (by kernel_rfl) (by kernel_rfl) (fun _ _ _ h => h) (Or.inl ⟨by rfl, ?ya2⟩) trivial ?za2
        case ya2 => (intro w hSw; (try dsimp only at hSw); go_simp; try with_reducible rfl)
        try simp only [List.getElem_toArray, List.getElem_cons_succ, List.getElem_cons_zero, Act.put, List.setIfInBounds_toArray, List.set_cons_zero, List.set_cons_succ]
        refine wpAnyH_take (i := 3) (v := ?va3) rfl (by kernel_rfl) (by kernel_rfl) (by kernel_rfl) (fun _ _ _ h => h) (Or.inl ⟨by rfl, ?ya3⟩) trivial ?za3
        case ya3 => (intro w hSw; (try dsimp only at hSw); go_simp; try with_reducible rfl)
        try simp only [List.getElem_toArray, List.getElem_cons_succ, List.getElem_cons_zero, Act.put, List.setIfInBounds_toArray, List.set_cons_zero, List.set_cons_succ]
        refine wpAnyH_take (i := 4) (v := ?va4) rfl (by kernel_rfl) (by kernel_rfl) (by kernel_rfl) (fun _ _ _ h => h) (Or.inl ⟨by rfl, ?ya4⟩) trivial ?za4
        case ya4 => (intro w hSw; (try dsimp only at hSw); go_simp; try with_reducible rfl)
        try simp only [List.getElem_toArray, List.getElem_cons_succ, List.getElem_cons_zero, Act.put, List.setIfInBounds_toArray, List.set_cons_zero, List.set_cons_succ]
        refine wpAnyH_take (i := 5) (v := ?va5) rfl (by kernel_rfl) (by kernel_rfl) (by kernel_rfl) (fun _ _ _ h => h) (Or.inl ⟨by rfl, ?ya5⟩) trivial ?za5
        case ya5 => (intro w hSw; (try dsimp only at hSw); go_simp; try with_reducible rfl)
        try simp only [List.getElem_toArray, List.getElem_cons_succ, List.getElem_cons_zero, Act.put, List.setIfInBounds_toArray, List.set_cons_zero, List.set_cons_succ]
        refine wpAnyH_take (i := 8) (v := ?va8) rfl (by kernel_rfl) (by kernel_rfl) (by kernel_rfl) (fun _ _ _ h => h) (Or.inl ⟨by rfl, ?ya8⟩) trivial ?za8
        case ya8 => (intro w hSw; (try dsimp only at hSw); go_simp; try with_reducible rfl)
        try simp only [List.getElem_toArray, List.getElem_cons_succ, List.getElem_cons_zero, Act.put, List.setIfInBounds_toArray, List.set_cons_zero, List.set_cons_succ]
        refine wpAnyH_take (i := 9) (v := ?va9) rfl (by kernel_rfl) (by kernel_rfl) (by kernel_rfl) (fun _ _ _ h => h) (Or.inl ⟨by rfl, ?ya9⟩) trivial ?za9
        case ya9 => (intro w hSw; (try dsimp only at hSw); go_simp; try with_reducible rfl)
        try simp only [List.getElem_toArray, List.getElem_cons_succ, List.getElem_cons_zero, Act.put, List.setIfInBounds_toArray, List.set_cons_zero, List.set_cons_succ]
        refine wpAnyH_take (i := 10) (v := ?va10) rfl (by kernel_rfl) (by kernel_rfl) (by kernel_rfl) (fun _ _ _ h => h) (Or.inl ⟨by rfl, ?ya10⟩) trivial ?za10
        case ya10 => (intro w hSw; (try dsimp only at hSw); go_simp; try with_reducible rfl)
        try simp only [List.getElem_toArray, List.getElem_cons_succ, List.getElem_cons_zero, Act.put, List.setIfInBounds_toArray, List.set_cons_zero, List.set_cons_succ]
        refine wpAnyH_take (i := 13) (v := ?va13) rfl (by kernel_rfl) (by kernel_rfl) (by kernel_rfl) (fun _ _ _ h => h) (Or.inl ⟨by rfl, ?ya13⟩) trivial ?za13
        case ya13 => (intro w hSw; (try dsimp only at hSw); go_simp; try with_reducible rfl)
        try simp only [List.getElem_toArray, List.getElem_cons_succ, List.getElem_cons_zero, Act.put, List.setIfInBounds_toArray, List.set_cons_zero, List.set_cons_succ]
        refine wpAnyH_ready (rs := [6, 11]) (by kernel_rfl) (by simp) ?_
        refine AllReadyH.cons rfl (fun K hK => ?_) (AllReadyH.cons rfl (fun K hK => ?_) AllReadyH.nil)
        · go_simp
          refine hK.out _ _ trivial (fun _ => ?_)
          clear hK K
          try simp only [List.getElem_toArray, List.getElem_cons_succ, List.getElem_cons_zero, Act.put, List.setIfInBounds_toArray, List.set_cons_zero, List.set_cons_succ]
          refine wpAnyH_take (i := 7) (v := ?vb7) rfl (by kernel_rfl) (by kernel_rfl) (by kernel_rfl) (fun _ _ _ h => h) (Or.inl ⟨by rfl, ?yb7⟩) trivial ?zb7
          case yb7 => (intro w hSw; (try dsimp only at hSw); go_simp; try with_reducible rfl)
          try simp only [List.getElem_toArray, List.getElem_cons_succ, List.getElem_cons_zero, Act.put, List.setIfInBounds_toArray, List.set_cons_zero, List.set_cons_succ]
          refine wpAnyH_ready (rs := [11]) (by kernel_rfl) (by simp) ?_
          refine AllReadyH.cons rfl (fun K hK => ?_) AllReadyH.nil
          go_simp
          refine hK.out _ _ trivial (fun _ => ?_)
          clear hK K
          try simp only [List.getElem_toArray, List.getElem_cons_succ, List.getElem_cons_zero, Act.put, List.setIfInBounds_toArray, List.set_cons_zero, List.set_cons_succ]
          refine wpAnyH_take (i := 12) (v := ?vb12) rfl (by kernel_rfl) (by kernel_rfl) (by kernel_rfl) (fun _ _ _ h => h) (Or.inl ⟨by rfl, ?yb12⟩) trivial ?zb12
          case yb12 => (intro w hSw; (try dsimp only at hSw); go_simp; try with_reducible rfl)
          try simp only [List.getElem_toArray, List.getElem_cons_succ, List.getElem_cons_zero, Act.put, List.setIfInBounds_toArray, List.set_cons_zero, List.set_cons_succ]
          refine wpAnyH_take (i := 14) (v := ?vb14) rfl (by kernel_rfl) (by kernel_rfl) (by kernel_rfl) (fun _ _ _ h => h) (Or.inl ⟨by rfl, ?yb14⟩) trivial ?zb14
          case yb14 => (intro w hSw; (try dsimp only at hSw); go_simp; try with_reducible rfl)
          try simp only [List.getElem_toArray, List.getElem_cons_succ, List.getElem_cons_zero, Act.put, List.setIfInBounds_toArray, List.set_cons_zero, List.set_cons_succ]
          refine wpAnyH_ready (rs := [15]) (by kernel_rfl) (by simp) ?_
          refine AllReadyH.cons rfl (fun K hK => ?_) AllReadyH.nil
          go_simp
          refine (HNum.out _).mono ?_
          rintro e w1 ⟨s1, d1, rfl, hi1, hb1⟩
          have HB1 : Hid (Below w.heap.size w w1) := two_below (Below.refl _ _).drew hb1
          have HI1 : Hid (Il w1 s1 b (fun j => ((x + 1 + j : Nat) : Int))) := hi1
          have HR1 : Hid (IRowAt w1 g k q) := HR.out.later HB1.out
          clear hi1 hb1
          refine hK.out _ _ trivial (fun _ => ?_)
          clear hK K
          try simp only [List.getElem_toArray, List.getElem_cons_succ, List.getElem_cons_zero, Act.put, List.setIfInBounds_toArray, List.set_cons_zero, List.set_cons_succ]
          refine wpAnyH_ready (rs := [16]) (by kernel_rfl) (by simp) ?_
          refine AllReadyH.cons rfl (fun K hK => ?_) AllReadyH.nil
          refine step_copy_ints rfl _ _ rfl g i k b _ d1 s1 q (fun j => x + 1 + j) (by omega) rfl rfl HR1.out HI1.out (by omega) ?_
          intro w2 HR2 HG2
          refine hK.out _ _ trivial (fun _ => ?_)
          clear hK K
          try simp only [List.getElem_toArray, List.getElem_cons_succ, List.getElem_cons_zero, Act.put, List.setIfInBounds_toArray, List.set_cons_zero, List.set_cons_succ]
          refine wpAnyH_done (by kernel_rfl) ?_ _
          go_wp2
          go_ret
          exact .inl ⟨i, rfl, by omega, by rw [HX.out]; omega, fun u h1 h2 => HL.out u (by omega) h2, HR2.out.congr (fun t ht => by rw [← HX.out]; exact cpf_nxt q HBh.out t ht), grown_trans (grown_of_below HB1.out _) HG2.out⟩
        · go_simp
          refine hK.out _ _ trivial (fun _ => ?_)
          clear hK K
          try simp only [List.getElem_toArray, List.getElem_cons_succ, List.getElem_cons_zero, Act.put, List.setIfInBounds_toArray, List.set_cons_zero, List.set_cons_succ]
          refine wpAnyH_take (i := 12) (v := ?vc12) rfl (by kernel_rfl) (by kernel_rfl) (by kernel_rfl) (fun _ _ _ h => h) (Or.inl ⟨by rfl, ?yc12⟩) trivial ?zc12
          case yc12 => (intro w hSw; (try dsimp only at hSw); go_simp; try with_reducible rfl)
          try simp only [List.getElem_toArray, List.getElem_cons_succ, List.getElem_cons_zero, Act.put, List.setIfInBounds_toArray, List.set_cons_zero, List.set_cons_succ]
          refine wpAnyH_take (i := 14) (v := ?vc14) rfl (by kernel_rfl) (by kernel_rfl) (by kernel_rfl) (fun _ _ _ h => h) (Or.inl ⟨by rfl, ?yc14⟩) trivial ?zc14
          case yc14 => (intro w hSw; (try dsimp only at hSw); go_simp; try with_reducible rfl)
          try simp only [List.getElem_toArray, List.getElem_cons_succ, List.getElem_cons_zero, Act.put, List.setIfInBounds_toArray, List.set_cons_zero, List.set_cons_succ]
          refine wpAnyH_ready (rs := [6]) (by kernel_rfl) (by simp) ?_
          refine AllReadyH.cons rfl (fun K hK => ?_) AllReadyH.nil
          go_simp
          refine hK.out _ _ trivial (fun _ => ?_)
          clear hK K
          try simp only [List.getElem_toArray, List.getElem_cons_succ, List.getElem_cons_zero, Act.put, List.setIfInBounds_toArray, List.set_cons_zero, List.set_cons_succ]
          refine wpAnyH_take (i := 7) (v := ?vc7) rfl (by kernel_rfl) (by kernel_rfl) (by kernel_rfl) (fun _ _ _ h => h) (Or.inl ⟨by rfl, ?yc7⟩) trivial ?zc7
          case yc7 => (intro w hSw; (try dsimp only at hSw); go_simp; try with_reducible rfl)
          try simp only [List.getElem_toArray, List.getElem_cons_succ, List.getElem_cons_zero, Act.put, List.setIfInBounds_toArray, List.set_cons_zero, List.set_cons_succ]
          refine wpAnyH_ready (rs := [15]) (by kernel_rfl) (by simp) ?_
          refine AllReadyH.cons rfl (fun K hK => ?_) AllReadyH.nil
          go_simp
          refine (HNum.out _).mono ?_
          rintro e w1 ⟨s1, d1, rfl, hi1, hb1⟩
          have HB1 : Hid (Below w.heap.size w w1) := two_below (Below.refl _ _).drew hb1
          have HI1 : Hid (Il w1 s1 b (fun j => ((x + 1 + j : Nat) : Int))) := hi1
          have HR1 : Hid (IRowAt w1 g k q) := HR.out.later HB1.out
          clear hi1 hb1
          refine hK.out _ _ trivial (fun _ => ?_)
          clear hK K
          try simp only [List.getElem_toArray, List.getElem_cons_succ, List.getElem_cons_zero, Act.put, List.setIfInBounds_toArray, List.set_cons_zero, List.set_cons_succ]
          refine wpAnyH_ready (rs := [16]) (by kernel_rfl) (by simp) ?_
          refine AllReadyH.cons rfl (fun K hK => ?_) AllReadyH.nil
          refine step_copy_ints rfl _ _ rfl g i k b _ d1 s1 q (fun j => x + 1 + j) (by omega) rfl rfl HR1.out HI1.out (by omega) ?_
          intro w2 HR2 HG2
          refine hK.out _ _ trivial (fun _ => ?_)
          clear hK K
          try simp only [List.getElem_toArray, List.getElem_cons_succ, List.getElem_cons_zero, Act.put, List.setIfInBounds_toArray, List.set_cons_zero, List.set_cons_succ]
          refine wpAnyH_done (by kernel_rfl) ?_ _
          go_wp2
          go_ret
          exact .inl ⟨i, rfl, by omega, by rw [HX.out]; omega, fun u h1 h2 => HL.out u (by omega) h2, HR2.out.congr (fun t ht => by rw [← HX.out]; exact cpf_nxt q HBh.out t ht), grown_trans (grown_of_below HB1.out _) HG2.out⟩
      · have g1 : decide ((x : Int) + (b : Int) < (n : Int)) = false := by simp; omega
        go_wp2
        refine ⟨⟨i, by omega, rfl, fun u h1 h2 => ?_, trivial⟩, by simp [intOf]⟩
        by_cases e : u = i
        · subst e
          rw [HX.out]
          omega
        · exact HL.out u (by omega) h2
end Go.Proofs.Ytblfldjlehjnbaa
