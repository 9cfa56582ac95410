/-
  The mathematics of stage 8: the sum's register, numbers in groups of seven bits. No Go in sight.
-/
import Derived.Test.YtlfmekjkgegclabMath
namespace Go.Proofs.Ytlfmekjkgegclab
/-- The register, moved down by one bit. -/
def sb (r : Nat) : Nat := if r % 2 = 1 then r / 2 ^^^ 3988292384 else r / 2
/-- The register, moved down by k bits. -/
def sbn : Nat → Nat → Nat
  | 0, r => r
  | k + 1, r => sb (sbn k r)
/-- The register behind some bytes. -/
def cr (f : Nat → Nat) : Nat → Nat
  | 0 => 4294967295
  | n + 1 => sbn 8 (cr f n ^^^ f n)
/-- The sum. -/
def cs (f : Nat → Nat) (n : Nat) : Nat := 4294967295 - cr f n
theorem xor_odd (x y : Nat) : (x ^^^ y) % 2 = (x + y) % 2 := by
  have h := Nat.xor_mod_two_eq_one (a := x) (b := y)
  omega
theorem xor_lt32 {x y : Nat} (hx : x < 4294967296) (hy : y < 4294967296) : x ^^^ y < 4294967296 := Nat.xor_lt_two_pow (n := 32) hx hy
theorem sb_lt {r : Nat} (h : r < 4294967296) : sb r < 4294967296 := by
  unfold sb
  split
  · exact xor_lt32 (by omega) (by decide)
  · omega
theorem sbn_lt {r : Nat} (h : r < 4294967296) : ∀ k, sbn k r < 4294967296 := by
  intro k
  induction k with
  | zero => exact h
  | succ k ih => exact sb_lt ih
theorem cr_lt {f : Nat → Nat} : ∀ n, (∀ i, i < n → f i < 256) → cr f n < 4294967296 := by
  intro n
  induction n with
  | zero => intro _; show 4294967295 < 4294967296; omega
  | succ n ih => intro h; exact sbn_lt (xor_lt32 (ih (fun i hi => h i (by omega))) (by have := h n (by omega); omega)) 8
theorem cs_lt (f : Nat → Nat) (n : Nat) : cs f n < 4294967296 := by unfold cs; omega
theorem cr_congr {f g : Nat → Nat} : ∀ n, (∀ i, i < n → f i = g i) → cr f n = cr g n := by
  intro n
  induction n with
  | zero => intro _; rfl
  | succ n ih => intro h; show sbn 8 (cr f n ^^^ f n) = sbn 8 (cr g n ^^^ g n); rw [ih (fun i hi => h i (by omega)), h n (by omega)]
theorem cs_congr {f g : Nat → Nat} {n : Nat} (h : ∀ i, i < n → f i = g i) : cs f n = cs g n := by unfold cs; rw [cr_congr n h]
/-- What is put together, goes on together. -/
theorem sb_xor (x y : Nat) : sb (x ^^^ y) = sb x ^^^ sb y := by
  unfold sb
  rw [xor_half, xor_odd]
  by_cases hx : x % 2 = 1
  · by_cases hy : y % 2 = 1
    · rw [if_neg (by omega), if_pos hx, if_pos hy]
      rw [show x / 2 ^^^ 3988292384 ^^^ (y / 2 ^^^ 3988292384) = (x / 2 ^^^ y / 2) ^^^ (3988292384 ^^^ 3988292384) by ac_rfl, Nat.xor_self, Nat.xor_zero]
    · rw [if_pos (by omega), if_pos hx, if_neg hy]
      ac_rfl
  · by_cases hy : y % 2 = 1
    · rw [if_pos (by omega), if_neg hx, if_pos hy]
      ac_rfl
    · rw [if_neg (by omega), if_neg hx, if_neg hy]
theorem sbn_xor (x y : Nat) : ∀ k, sbn k (x ^^^ y) = sbn k x ^^^ sbn k y := by
  intro k
  induction k with
  | zero => rfl
  | succ k ih => show sb _ = sb _ ^^^ sb _; rw [ih, sb_xor]
theorem sb_even (x : Nat) : sb (2 * x) = x := by unfold sb; rw [if_neg (by omega)]; omega
theorem sbn_comm (x : Nat) : ∀ k, sbn k (sb x) = sb (sbn k x) := by
  intro k
  induction k with
  | zero => rfl
  | succ k ih => show sb (sbn k (sb x)) = sb (sb (sbn k x)); rw [ih]
theorem sbn_shift (x : Nat) : ∀ k, sbn k (2 ^ k * x) = x := by
  intro k
  induction k with
  | zero => show 2 ^ 0 * x = x; omega
  | succ k ih =>
    show sb (sbn k (2 ^ (k + 1) * x)) = x
    rw [← sbn_comm, show 2 ^ (k + 1) * x = 2 * (2 ^ k * x) by rw [Nat.pow_succ]; ac_rfl, sb_even, ih]
theorem low_high (x : Nat) : x = x % 256 ^^^ 2 ^ 8 * (x / 256) := by
  apply Nat.eq_of_testBit_eq
  intro i
  rw [Nat.testBit_xor, Nat.testBit_two_pow_mul, show (256 : Nat) = 2 ^ 8 from rfl, Nat.testBit_mod_two_pow, Nat.testBit_div_two_pow]
  by_cases hi : 8 ≤ i
  · simp [hi, Nat.not_lt.2 hi, Nat.sub_add_cancel hi]
  · simp [hi, Nat.not_le.1 hi]
/-- A byte at once: by a table. -/
theorem sbn_table (x : Nat) : sbn 8 x = sbn 8 (x % 256) ^^^ x / 256 := by
  conv => lhs; rw [low_high x]
  rw [sbn_xor, sbn_shift]
theorem cr_xor3 {f g h l : Nat → Nat} : ∀ n, (∀ i, i < n → l i = f i ^^^ g i ^^^ h i) → cr l n = cr f n ^^^ cr g n ^^^ cr h n := by
  intro n
  induction n with
  | zero => intro _; show 4294967295 = 4294967295 ^^^ 4294967295 ^^^ 4294967295; rw [Nat.xor_self, Nat.zero_xor]
  | succ n ih =>
    intro e
    show sbn 8 (cr l n ^^^ l n) = sbn 8 (cr f n ^^^ f n) ^^^ sbn 8 (cr g n ^^^ g n) ^^^ sbn 8 (cr h n ^^^ h n)
    rw [ih (fun i hi => e i (by omega)), e n (by omega), ← sbn_xor, ← sbn_xor]
    congr 1
    ac_rfl
theorem not_xor {x : Nat} (h : x < 4294967296) : 4294967295 - x = 4294967295 ^^^ x := by
  have h1 := Nat.testBit_two_pow_sub_succ (n := 32) (x := x) h
  apply Nat.eq_of_testBit_eq
  intro i
  have e : 4294967295 - x = 2 ^ 32 - (x + 1) := by omega
  rw [e, h1 i, Nat.testBit_xor, show (4294967295 : Nat) = 2 ^ 32 - 1 from rfl, Nat.testBit_two_pow_sub_one]
  by_cases hi : i < 32
  · simp [hi]
  · have : x.testBit i = false := Nat.testBit_lt_two_pow (Nat.lt_of_lt_of_le (show x < 2 ^ 32 from h) (Nat.pow_le_pow_right (by decide) (by omega)))
    simp [hi, this]
theorem cs_xor3 {f g h l : Nat → Nat} {n : Nat} (e : ∀ i, i < n → l i = f i ^^^ g i ^^^ h i) (hf : ∀ i, i < n → f i < 256) (hg : ∀ i, i < n → g i < 256) (hh : ∀ i, i < n → h i < 256) (hl : ∀ i, i < n → l i < 256) : cs l n = cs f n ^^^ cs g n ^^^ cs h n := by
  unfold cs
  rw [not_xor (cr_lt n hl), not_xor (cr_lt n hf), not_xor (cr_lt n hg), not_xor (cr_lt n hh), cr_xor3 n e]
  rw [show 4294967295 ^^^ cr f n ^^^ (4294967295 ^^^ cr g n) ^^^ (4294967295 ^^^ cr h n) = (4294967295 ^^^ 4294967295) ^^^ (4294967295 ^^^ (cr f n ^^^ cr g n ^^^ cr h n)) by ac_rfl, Nat.xor_self, Nat.zero_xor]
/-- A number's byte j. -/
def nby (n j : Nat) : Nat := if n / 128 ^ j < 128 then n / 128 ^ j else n / 128 ^ j % 128 + 128
/-- The form of n has L bytes. -/
def NF (n L : Nat) : Prop := 1 ≤ L ∧ n < 128 ^ L ∧ (1 < L → 128 ^ (L - 1) ≤ n)
theorem nby_lt (n j : Nat) : nby n j < 256 := by unfold nby; split <;> omega
theorem nf_pow {a b : Nat} (h : 128 ^ a < 128 ^ b) : a < b := (Nat.pow_lt_pow_iff_right (by decide)).1 h
theorem NF.one {n L K : Nat} (h : NF n L) (g : NF n K) : L = K := by
  obtain ⟨a, b, c⟩ := h
  obtain ⟨d, e, f⟩ := g
  rcases Nat.lt_trichotomy L K with x | x | x
  · have h1 := f (by omega)
    have h2 := nf_pow (Nat.lt_of_le_of_lt h1 b)
    omega
  · exact x
  · have h1 := c (by omega)
    have h2 := nf_pow (Nat.lt_of_le_of_lt h1 e)
    omega
theorem nf_ex (n : Nat) : ∃ L, NF n L := by
  have h : ∀ k, n < 128 ^ k → ∃ L, NF n L := by
    intro k
    induction k with
    | zero => intro h; exact ⟨1, by omega, by rw [Nat.pow_zero] at h; omega, fun h => by omega⟩
    | succ k ih =>
      intro h
      by_cases hk : n < 128 ^ k
      · exact ih hk
      · exact ⟨k + 1, by omega, h, fun _ => by rw [Nat.add_sub_cancel]; omega⟩
  exact h n (Nat.lt_of_lt_of_le Nat.lt_two_pow_self (Nat.pow_le_pow_left (by decide) n))
/-- All bytes but the last one have their highest bit set. -/
theorem NF.more {n L j : Nat} (h : NF n L) (hj : j + 1 < L) : 128 ≤ n / 128 ^ j := by
  have h1 := h.2.2 (by omega)
  rw [Nat.le_div_iff_mul_le (Nat.pow_pos (by decide))]
  refine Nat.le_trans ?_ h1
  rw [show 128 * 128 ^ j = 128 ^ (j + 1) by rw [Nat.pow_succ, Nat.mul_comm]]
  exact Nat.pow_le_pow_right (by decide) (by omega)
theorem NF.last {n L j : Nat} (h : NF n L) (hj : j + 1 = L) : n / 128 ^ j < 128 := by
  subst hj
  rw [Nat.div_lt_iff_lt_mul (Nat.pow_pos (by decide))]
  have := h.2.1
  rw [Nat.pow_succ] at this
  omega
theorem NF.pos {n L j : Nat} (h : NF n L) (hj : j + 1 = L) (h0 : 0 < j) : n / 128 ^ j ≠ 0 := by
  have h1 := h.2.2 (by omega)
  subst hj
  rw [Nat.add_sub_cancel] at h1
  have := Nat.div_pos h1 (Nat.pow_pos (by decide))
  omega
theorem nf_nine {n L : Nat} (h : NF n L) (hn : n < 9223372036854775808) : L ≤ 9 := by
  have h1 := h.2.2
  apply Classical.byContradiction
  intro hk
  have h2 := h1 (by omega)
  have h3 : 128 ^ 9 ≤ 128 ^ (L - 1) := Nat.pow_le_pow_right (by decide) (by omega)
  have h4 : (128 : Nat) ^ 9 = 9223372036854775808 := by decide
  omega
/-- What some bytes come to, in groups of seven bits. -/
def v7 (f : Nat → Nat) : Nat → Nat
  | 0 => 0
  | i + 1 => v7 f i + f i % 128 * 128 ^ i
theorem v7_lt (f : Nat → Nat) : ∀ i, v7 f i < 128 ^ i := by
  intro i
  induction i with
  | zero => exact Nat.one_pos
  | succ i ih =>
    show v7 f i + f i % 128 * 128 ^ i < 128 ^ (i + 1)
    have h1 : f i % 128 * 128 ^ i ≤ 127 * 128 ^ i := Nat.mul_le_mul_right _ (by omega)
    rw [Nat.pow_succ]
    omega
theorem v7_congr {f g : Nat → Nat} : ∀ i, (∀ j, j < i → f j = g j) → v7 f i = v7 g i := by
  intro i
  induction i with
  | zero => intro _; rfl
  | succ i ih => intro h; show v7 f i + _ = v7 g i + _; rw [ih (fun j hj => h j (by omega)), h i (by omega)]
theorem nby_mod (n j : Nat) : nby n j % 128 = n / 128 ^ j % 128 := by
  unfold nby
  split
  · rfl
  · omega
theorem v7_nby (n : Nat) : ∀ i, v7 (nby n) i = n % 128 ^ i := by
  intro i
  induction i with
  | zero => show 0 = n % 1; omega
  | succ i ih =>
    show v7 (nby n) i + nby n i % 128 * 128 ^ i = n % 128 ^ (i + 1)
    rw [ih, nby_mod, Nat.pow_succ, Nat.mod_mul, Nat.mul_comm]
/-- The digits of what bytes come to. -/
theorem v7_div (f : Nat → Nat) : ∀ d j, v7 f (j + d) / 128 ^ j % 128 = if 0 < d then f j % 128 else 0 := by
  intro d
  induction d with
  | zero => intro j; rw [Nat.add_zero, Nat.div_eq_of_lt (v7_lt f j)]; rfl
  | succ d ih =>
    intro j
    rw [if_pos (by omega)]
    show (v7 f (j + d) + f (j + d) % 128 * 128 ^ (j + d)) / 128 ^ j % 128 = f j % 128
    have hp : 0 < 128 ^ j := Nat.pow_pos (by decide)
    rw [Nat.pow_add, show f (j + d) % 128 * (128 ^ j * 128 ^ d) = 128 ^ j * (f (j + d) % 128 * 128 ^ d) by ac_rfl, Nat.add_mul_div_left _ _ hp]
    cases d with
    | zero =>
      rw [Nat.add_zero, Nat.div_eq_of_lt (v7_lt f j)]
      omega
    | succ d =>
      have h1 := ih j
      rw [if_pos (by omega)] at h1
      rw [Nat.pow_succ, ← Nat.mul_assoc, Nat.add_mul_mod_self_right]
      exact h1
/-- The bytes are read as a number. -/
structure RnOk (f : Nat → Nat) (len n s : Nat) : Prop where
  s1 : 1 ≤ s
  s9 : s ≤ 9
  fits : s ≤ len
  high : ∀ j, j + 1 < s → 128 ≤ f j
  last : f (s - 1) < 128
  notz : 1 < s → f (s - 1) ≠ 0
  val : n = v7 f s
def RnShort (f : Nat → Nat) (len : Nat) : Prop := len < 9 ∧ ∀ j, j < len → 128 ≤ f j
def RnForm (f : Nat → Nat) (len : Nat) : Prop := ∃ i, i ≤ 8 ∧ i < len ∧ (∀ j, j < i → 128 ≤ f j) ∧ ((0 < i ∧ f i = 0) ∨ (i = 8 ∧ 128 ≤ f i))
/-- What ReadNum answers. -/
def RN (f : Nat → Nat) (len n s E : Nat) : Prop := (E = 0 ∧ RnOk f len n s) ∨ (E = 7 ∧ n = 0 ∧ s = 0 ∧ RnShort f len) ∨ (E = 8 ∧ n = 0 ∧ s = 0 ∧ RnForm f len)
theorem RnOk.one {f : Nat → Nat} {len n s m t : Nat} (h : RnOk f len n s) (g : RnOk f len m t) : n = m ∧ s = t := by
  have e : s = t := by
    rcases Nat.lt_trichotomy s t with x | x | x
    · have h1 := g.high (s - 1) (by have := h.s1; omega)
      have h2 := h.last
      omega
    · exact x
    · have h1 := h.high (t - 1) (by have := g.s1; omega)
      have h2 := g.last
      omega
  subst e
  exact ⟨by rw [h.val, g.val], rfl⟩
theorem RnOk.short {f : Nat → Nat} {len n s : Nat} (h : RnOk f len n s) (g : RnShort f len) : False := by
  have h1 := g.2 (s - 1) (by have := h.s1; have := h.fits; omega)
  have := h.last
  omega
theorem RnOk.form {f : Nat → Nat} {len n s : Nat} (h : RnOk f len n s) (g : RnForm f len) : False := by
  obtain ⟨i, h8, hl, hj, hi⟩ := g
  have hs1 := h.s1
  have hs9 := h.s9
  rcases Nat.lt_trichotomy i (s - 1) with x | x | x
  · have h1 := h.high i (by omega)
    rcases hi with ⟨_, e⟩ | ⟨e, _⟩ <;> omega
  · rcases hi with ⟨h0, e⟩ | ⟨e, h2⟩
    · exact h.notz (by omega) (by rw [← x]; exact e)
    · have := h.last
      rw [← x] at this
      omega
  · have h1 := hj (s - 1) x
    have := h.last
    omega
theorem RnShort.form {f : Nat → Nat} {len : Nat} (h : RnShort f len) (g : RnForm f len) : False := by
  obtain ⟨i, h8, hl, hj, hi⟩ := g
  have h1 := h.2 i hl
  have h2 := h.1
  rcases hi with ⟨_, e⟩ | ⟨e, _⟩ <;> omega
theorem RN.one {f : Nat → Nat} {len n s E m t D : Nat} (h : RN f len n s E) (g : RN f len m t D) : n = m ∧ s = t ∧ E = D := by
  rcases h with ⟨rfl, h⟩ | ⟨rfl, rfl, rfl, h⟩ | ⟨rfl, rfl, rfl, h⟩
  · rcases g with ⟨rfl, g⟩ | ⟨_, _, _, g⟩ | ⟨_, _, _, g⟩
    · exact ⟨(h.one g).1, (h.one g).2, rfl⟩
    · exact (h.short g).elim
    · exact (h.form g).elim
  · rcases g with ⟨_, g⟩ | ⟨rfl, rfl, rfl, g⟩ | ⟨_, _, _, g⟩
    · exact (g.short h).elim
    · exact ⟨rfl, rfl, rfl⟩
    · exact (h.form g).elim
  · rcases g with ⟨_, g⟩ | ⟨_, _, _, g⟩ | ⟨rfl, rfl, rfl, _⟩
    · exact (g.form h).elim
    · exact (g.form h).elim
    · exact ⟨rfl, rfl, rfl⟩
/-- Where the first i bytes have their highest bit set: what comes next. -/
theorem rn_end {f : Nat → Nat} {len i : Nat} (hi : i ≤ 8) (hl : i < len) (hj : ∀ j, j < i → 128 ≤ f j) (h0 : ¬ (0 < i ∧ f i = 0)) (h1 : f i < 128) : RnOk f len (v7 f (i + 1)) (i + 1) :=
  ⟨by omega, by omega, by omega, fun j hj' => hj j (by omega), h1, fun h => by rw [Nat.add_sub_cancel]; exact fun e => h0 ⟨by omega, e⟩, rfl⟩
theorem rn_ex (f : Nat → Nat) (len : Nat) : ∃ n s E, RN f len n s E := by
  have h : ∀ k i, i + k = 9 → (∀ j, j < i → 128 ≤ f j) → i ≤ len → (k = 0 → False) → ∃ n s E, RN f len n s E := by
    intro k
    induction k with
    | zero => intro i _ _ _ h; exact (h rfl).elim
    | succ k ih =>
      intro i hk hj hl _
      by_cases e : i = len
      · exact ⟨0, 0, 7, .inr (.inl ⟨rfl, rfl, rfl, by omega, fun j hj' => hj j (by omega)⟩)⟩
      · by_cases h0 : (0 < i ∧ f i = 0) ∨ (i = 8 ∧ 128 ≤ f i)
        · exact ⟨0, 0, 8, .inr (.inr ⟨rfl, rfl, rfl, i, by omega, by omega, hj, h0⟩)⟩
        · by_cases h1 : f i < 128
          · exact ⟨_, _, 0, .inl ⟨rfl, rn_end (by omega) (by omega) hj (fun h => h0 (.inl h)) h1⟩⟩
          · refine ih (i + 1) (by omega) (fun j hj' => ?_) (by omega) (fun hk0 => h0 (.inr ⟨by omega, by omega⟩))
            by_cases e2 : j = i
            · rw [e2]; omega
            · exact hj j (by omega)
  exact h 9 0 rfl (fun j hj => by omega) (by omega) (by decide)
/-- What is read is the form of what was read. -/
theorem RnOk.nf {f : Nat → Nat} {len n s : Nat} (hf : ∀ i, i < len → f i < 256) (h : RnOk f len n s) : NF n s ∧ ∀ j, j < s → f j = nby n j := by
  have hs1 := h.s1
  have hfit := h.fits
  have hv := h.val
  have hlast := h.last
  have hd : ∀ j, j < s → n / 128 ^ j % 128 = f j % 128 := fun j hj => by
    have := v7_div f (s - j) j
    rw [if_pos (by omega), show j + (s - j) = s by omega, ← hv] at this
    exact this
  have hn : NF n s := by
    refine ⟨hs1, by rw [hv]; exact v7_lt f s, fun h1 => ?_⟩
    apply Classical.byContradiction
    intro hlt
    have h2 := hd (s - 1) (by omega)
    rw [Nat.div_eq_of_lt (by omega), Nat.mod_eq_of_lt hlast] at h2
    exact h.notz h1 h2.symm
  refine ⟨hn, fun j hj => ?_⟩
  have h2 := hd j hj
  unfold nby
  by_cases e : j + 1 = s
  · have h3 := hn.last e
    rw [if_pos h3]
    rw [Nat.mod_eq_of_lt h3] at h2
    rw [show s - 1 = j by omega] at hlast
    omega
  · have h3 := hn.more (j := j) (by omega)
    rw [if_neg (by omega), h2]
    have h4 := h.high j (by omega)
    have h5 := hf j (by omega)
    omega
/-- A form is read as what was written. -/
theorem NF.read {f : Nat → Nat} {len n L : Nat} (h : NF n L) (hn : n < 9223372036854775808) (hf : ∀ j, j < L → f j = nby n j) (hl : L ≤ len) : RnOk f len n L := by
  have hL := h.1
  refine ⟨hL, nf_nine h hn, hl, fun j hj => ?_, ?_, fun h1 => ?_, ?_⟩
  · rw [hf j (by omega)]
    have := h.more hj
    unfold nby
    rw [if_neg (by omega)]
    omega
  · rw [hf _ (by omega)]
    have := h.last (j := L - 1) (by omega)
    unfold nby
    rw [if_pos this]
    exact this
  · rw [hf _ (by omega)]
    have h2 := h.last (j := L - 1) (by omega)
    unfold nby
    rw [if_pos h2]
    exact h.pos (by omega) (by omega)
  · rw [v7_congr L hf, v7_nby, Nat.mod_eq_of_lt h.2.1]
end Go.Proofs.Ytlfmekjkgegclab
