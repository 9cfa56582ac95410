/-
  Whole numbers as floats, of any size below 2^53: sums, differences, products, orders, cuts.
-/
import Derived.Laws.ComplexArith
namespace Go.Proofs.Ytbhidokfclchlaa
open Ieee
theorem sg_shift (s : Bool) (m a c : Nat) : signed s m (a + c) = signed s m a * 2 ^ c := by
  unfold signed
  have e : m <<< (a + c) = m <<< a * 2 ^ c := by rw [Nat.shiftLeft_eq, Nat.shiftLeft_eq, Nat.pow_add, Nat.mul_assoc]
  rw [e]
  split
  · rw [Int.natCast_mul, Int.neg_mul, Int.natCast_pow]; rfl
  · rw [Int.natCast_mul, Int.natCast_pow]; rfl
theorem sg_abs (s : Bool) (m a : Nat) : (signed s m a).natAbs = m * 2 ^ a := by
  unfold signed
  split <;> simp [Nat.shiftLeft_eq, Int.natAbs_mul, Int.natAbs_pow]
/-- The word x is the whole number n. -/
def Gv (s : Bool) (m : Nat) (i : Int) (n : Int) : Prop := ∃ b : Nat, 0 ≤ i + (b : Int) ∧ signed s m (i + b).toNat = n * 2 ^ b
theorem Gv.at {s : Bool} {m : Nat} {i n : Int} (h : Gv s m i n) : ∃ b0 : Nat, ∀ b, b0 ≤ b → 0 ≤ i + (b : Int) ∧ signed s m (i + b).toNat = n * 2 ^ b := by
  obtain ⟨b0, h1, h2⟩ := h
  refine ⟨b0, fun b hb => ⟨by omega, ?_⟩⟩
  obtain ⟨c, rfl⟩ : ∃ c, b = b0 + c := ⟨b - b0, by omega⟩
  rw [show (i + ((b0 + c : Nat) : Int)).toNat = (i + b0).toNat + c by omega, sg_shift, h2, Int.mul_assoc, ← Int.pow_add]
def Gw (x : Nat) (n : Int) : Prop := x < 2 ^ 64 ∧ ∃ s m i, double.read x = .number s m i ∧ Gv s m i n
theorem cmp_scale (x y k : Int) (hk : 0 < k) : compare (x * k) (y * k) = compare x y := by
  show compareOfLessAndEq _ _ = compareOfLessAndEq _ _
  unfold compareOfLessAndEq
  have e1 : (x * k < y * k) ↔ x < y := Int.mul_lt_mul_right hk
  have e2 : (x * k = y * k) ↔ x = y := Int.mul_eq_mul_right_iff (by omega)
  simp only [e1, e2]
theorem pow_pos2 (b : Nat) : (0 : Int) < 2 ^ b := Int.pow_pos (by decide)
theorem gw_order {x y : Nat} {a c : Int} (hx : Gw x a) (hy : Gw y c) : FloatKind.f64.format.order x y = some (compare a c) := by
  obtain ⟨_, s, m, i, e1, g1⟩ := hx
  obtain ⟨_, t, n, j, e2, g2⟩ := hy
  obtain ⟨b1, g1⟩ := g1.at
  obtain ⟨b2, g2⟩ := g2.at
  show (double.read x).order (double.read y) = _
  rw [e1, e2]
  show some (compare (signed s m (i - min i j).toNat) (signed t n (j - min i j).toNat)) = _
  obtain ⟨N, h1, h2⟩ : ∃ N : Nat, b1 ≤ N ∧ b2 ≤ N := ⟨b1 + b2, by omega, by omega⟩
  have p1 := g1 N h1
  have p2 := g2 N h2
  rw [show (i + (N : Int)).toNat = (i - min i j).toNat + (min i j + N).toNat by omega, sg_shift] at p1
  rw [show (j + (N : Int)).toNat = (j - min i j).toNat + (min i j + N).toNat by omega, sg_shift] at p2
  rw [← cmp_scale _ _ (2 ^ (min i j + (N : Int)).toNat) (pow_pos2 _), p1.2, p2.2, cmp_scale _ _ _ (pow_pos2 _)]

theorem log2_shift (m k : Nat) (hm : m ≠ 0) : (m * 2 ^ k).log2 = m.log2 + k := by
  have h1 := Nat.log2_self_le hm
  have h2 := Nat.lt_log2_self (n := m)
  have hmk : m * 2 ^ k ≠ 0 := Nat.mul_ne_zero hm (by have := Nat.two_pow_pos k; omega)
  have a1 : m.log2 + k ≤ (m * 2 ^ k).log2 := (Nat.le_log2 hmk).2 (by rw [Nat.pow_add]; exact Nat.mul_le_mul_right _ h1)
  have a2 : (m * 2 ^ k).log2 < m.log2 + k + 1 := (Nat.log2_lt hmk).2 (by rw [show m.log2 + k + 1 = (m.log2 + 1) + k by omega, Nat.pow_add]; exact Nat.mul_lt_mul_of_pos_right h2 (Nat.two_pow_pos k))
  omega
theorem cut_none (way : Toward) (s : Bool) (n : Nat) : way.cut s n 0 = n := by
  unfold Toward.cut
  cases way <;> simp [Nat.mod_one]
theorem cut_exact (way : Toward) (s : Bool) (n drop : Nat) (h : n ≠ 0 ∨ drop = 0) : way.cut s (n * 2 ^ drop) drop = n := by
  rcases h with hn | rfl
  · unfold Toward.cut
    have hl : min drop ((n * 2 ^ drop).log2 + 2) = drop := by
      rw [log2_shift n drop hn]
      omega
    have hp := Nat.two_pow_pos drop
    rw [hl, Nat.shiftLeft_eq, Nat.one_mul]
    simp only [Nat.mul_div_cancel _ hp, Nat.mul_mod_left]
    cases way <;> simp
  · rw [Nat.pow_zero, Nat.mul_one]; exact cut_none way s n
theorem cut_zero (way : Toward) (s : Bool) (drop : Nat) : way.cut s 0 drop = 0 := by
  unfold Toward.cut
  cases way <;> simp
theorem read_word0 (neg : Bool) : double.read (double.word neg 0) = .number neg 0 (-1074) := by
  cases neg <;> decide +kernel
theorem word_lt64 (neg : Bool) (r : Nat) (h : r < 2 ^ 63) : double.word neg r < 2 ^ 64 := by
  have : double.signWeight = 2 ^ 63 := rfl
  unfold Format.word
  split <;> omega
theorem read_word (neg : Bool) (L K : Nat) (hL : L ≤ 60) (h1 : 2 ^ 52 ≤ K) (h2 : K < 2 ^ 53) : double.read (double.word neg ((L + 1022) * 2 ^ 52 + K)) = .number neg K ((L : Int) - 52) := by
  have sw : double.signWeight = 2 ^ 63 := rfl
  have bn : double.binade = 2 ^ 52 := rfl
  have ir : double.infRung = 2047 * 2 ^ 52 := rfl
  have lp : double.leastPlace = -1074 := rfl
  obtain ⟨r, hr⟩ : ∃ r, (L + 1022) * 2 ^ 52 + K = r := ⟨_, rfl⟩
  have e1 : r % 2 ^ 52 = K - 2 ^ 52 := by omega
  have e2 : r / 2 ^ 52 = L + 1023 := by omega
  rw [hr]
  have hw : double.word neg r / 2 ^ 63 % 2 = (if neg then 1 else 0) ∧ double.word neg r % 2 ^ 63 = r := by
    unfold Format.word
    rw [sw]
    cases neg <;> simp <;> omega
  obtain ⟨W, hW⟩ : ∃ W, double.word neg r = W := ⟨_, rfl⟩
  rw [hW] at hw ⊢
  have c1 : ¬ r < 2 ^ 52 := by omega
  have c2 : r < 2047 * 2 ^ 52 := by omega
  have e3 : 2 ^ 52 + (K - 2 ^ 52) = K := Nat.add_sub_of_le h1
  have e4 : (-1074 : Int) + ((L + 1023 - 1 : Nat) : Int) = (L : Int) - 52 := by omega
  unfold Format.read
  simp only [sw, bn, ir, lp, hw.2, hw.1, e1, e2, e3, e4, if_neg c1, if_pos c2]
  cases neg <;> rfl

theorem gw_nearest (neg : Bool) (mag : Nat) (place n : Int) (h : Gv neg mag place n) (hn : n.natAbs < 2 ^ 53) : Gw (double.nearest neg mag place) n := by
  obtain ⟨b0, g⟩ := h.at
  by_cases hm : mag = 0
  · subst hm
    have hn0 : n = 0 := by
      have := (g b0 (Nat.le_refl _)).2
      have z : signed neg 0 (place + (b0 : Int)).toNat = 0 := by unfold signed; simp
      rw [z] at this
      have hp := pow_pos2 b0
      rcases Int.mul_eq_zero.1 this.symm with h | h
      · exact h
      · omega
    subst hn0
    have e : double.nearest neg 0 place = double.word neg 0 := by unfold Format.nearest; rw [if_pos rfl]
    rw [e]
    obtain ⟨B, hB⟩ : ∃ B : Nat, 1074 = B := ⟨_, rfl⟩
    refine ⟨word_lt64 _ _ (Nat.two_pow_pos 63), neg, 0, -1074, read_word0 neg, B, by omega, ?_⟩
    unfold signed
    simp
  · obtain ⟨b, hb1, hb2⟩ : ∃ b : Nat, b0 ≤ b ∧ 2000 ≤ b := ⟨b0 + 2000, by omega, by omega⟩
    obtain ⟨gp, gv⟩ := g b hb1
    have ga := congrArg Int.natAbs gv
    rw [sg_abs, Int.natAbs_mul, Int.natAbs_pow] at ga
    obtain ⟨N, hN⟩ : ∃ N, n.natAbs = N := ⟨_, rfl⟩
    rw [hN] at ga hn
    have ga : mag * 2 ^ (place + (b : Int)).toNat = N * 2 ^ b := ga
    have hN0 : N ≠ 0 := by
      intro e
      rw [e, Nat.zero_mul] at ga
      rcases Nat.mul_eq_zero.1 ga with h | h
      · exact hm h
      · have := Nat.two_pow_pos (place + (b : Int)).toNat; omega
    have lg := congrArg Nat.log2 ga
    rw [log2_shift _ _ hm, log2_shift _ _ hN0] at lg
    obtain ⟨L, hL⟩ : ∃ L, N.log2 = L := ⟨_, rfl⟩
    rw [hL] at lg
    have l1 : 2 ^ L ≤ N := by rw [← hL]; exact Nat.log2_self_le hN0
    have l2 : N < 2 ^ (L + 1) := by rw [← hL]; exact Nat.lt_log2_self
    have l3 : L ≤ 52 := by
      have : L < 53 := by rw [← hL]; exact (Nat.log2_lt hN0).2 hn
      omega
    obtain ⟨c, hc⟩ : ∃ c, c + L = 52 := ⟨52 - L, by omega⟩
    have k1 : 2 ^ 52 ≤ N * 2 ^ c := by
      rw [← hc, Nat.add_comm, Nat.pow_add]
      exact Nat.mul_le_mul_right _ l1
    have k2 : N * 2 ^ c < 2 ^ 53 := by
      rw [show 53 = (L + 1) + c by omega, Nat.pow_add]
      exact Nat.mul_lt_mul_of_pos_right l2 (Nat.two_pow_pos c)
    have fb : (double.fractionBits : Int) = 52 := rfl
    have lp : double.leastPlace = -1074 := rfl
    have hlast : max (place + (mag.log2 : Int) - double.fractionBits) double.leastPlace = (L : Int) - 52 := by
      rw [fb, lp]
      omega
    have hkept : Toward.even.cut neg (mag <<< (place - ((L : Int) - 52)).toNat) (((L : Int) - 52) - place).toNat = N * 2 ^ c := by
      by_cases hp : (L : Int) - 52 ≤ place
      · rw [show (((L : Int) - 52) - place).toNat = 0 by omega, cut_none, Nat.shiftLeft_eq]
        have e1 : (place + (b : Int)).toNat = (place - ((L : Int) - 52)).toNat + (b - c) := by omega
        rw [e1, Nat.pow_add, ← Nat.mul_assoc, show b = c + (b - c) by omega, Nat.pow_add, ← Nat.mul_assoc, show c + (b - c) - c = b - c by omega] at ga
        exact Nat.eq_of_mul_eq_mul_right (Nat.two_pow_pos _) ga
      · obtain ⟨dr, hdr⟩ : ∃ dr : Nat, (((L : Int) - 52) - place).toNat = dr := ⟨_, rfl⟩
        have e0 : mag = N * 2 ^ c * 2 ^ dr := by
          have e1 : b = c + dr + (place + (b : Int)).toNat := by omega
          rw [e1, Nat.pow_add, Nat.pow_add, ← Nat.mul_assoc, ← Nat.mul_assoc, ← e1] at ga
          exact Nat.eq_of_mul_eq_mul_right (Nat.two_pow_pos _) ga
        rw [hdr, show (place - ((L : Int) - 52)).toNat = 0 by omega, Nat.shiftLeft_zero, e0]
        exact cut_exact _ _ _ _ (Or.inl (by have := Nat.two_pow_pos c; exact Nat.mul_ne_zero hN0 (by omega)))
    obtain ⟨K, hK⟩ : ∃ K, N * 2 ^ c = K := ⟨_, rfl⟩
    rw [hK] at k1 k2 hkept
    have e : double.nearest neg mag place = double.word neg ((L + 1022) * 2 ^ 52 + K) := by
      unfold Format.nearest
      rw [if_neg hm]
      simp only [hlast, hkept]
      have bn : double.binade = 2 ^ 52 := rfl
      have ir : double.infRung = 2047 * 2 ^ 52 := rfl
      rw [lp, bn, ir, show ((L : Int) - 52 - -1074).toNat = L + 1022 by omega, Nat.min_eq_left (by omega)]
    rw [e]
    refine ⟨word_lt64 _ _ (by omega), neg, K, (L : Int) - 52, read_word neg L K (by omega) k1 k2, 52, by omega, ?_⟩
    have h52 : ((L : Int) - 52 + ((52 : Nat) : Int)).toNat = L := by omega
    rw [h52]
    have eK : K * 2 ^ L = N * 2 ^ 52 := by rw [← hK, Nat.mul_assoc, ← Nat.pow_add, hc]
    -- the sign
    have hp := pow_pos2 b
    have hmp : 0 < mag * 2 ^ (place + (b : Int)).toNat := Nat.mul_pos (by omega) (Nat.two_pow_pos _)
    cases neg with
    | true =>
      have hneg : n < 0 := by
        have : signed true mag (place + (b : Int)).toNat < 0 := by
          unfold signed
          rw [if_pos rfl, Nat.shiftLeft_eq]
          omega
        rw [gv] at this
        exact Int.lt_of_mul_lt_mul_right (by rw [Int.zero_mul]; exact this) (Int.le_of_lt hp)
      have en : n = -(N : Int) := by omega
      unfold signed
      rw [if_pos rfl, Nat.shiftLeft_eq, eK, en, Int.natCast_mul, Int.neg_mul, Int.natCast_pow]
      rfl
    | false =>
      have hpos : 0 < n := by
        have : 0 < signed false mag (place + (b : Int)).toNat := by
          unfold signed
          rw [if_neg (by decide), Nat.shiftLeft_eq]
          omega
        rw [gv] at this
        exact Int.lt_of_mul_lt_mul_right (by rw [Int.zero_mul]; exact this) (Int.le_of_lt hp)
      have en : n = (N : Int) := by omega
      unfold signed
      rw [if_neg (by decide), Nat.shiftLeft_eq, eK, en, Int.natCast_mul, Int.natCast_pow]
      rfl

theorem gv_int (t : Int) (neg : Bool) (k : Nat) (h : t = 0 ∨ neg = decide (t < 0)) : signed neg t.natAbs k = t * 2 ^ k := by
  unfold signed
  rcases h with rfl | rfl
  · simp
  · by_cases ht : t < 0
    · rw [if_pos (by simp [ht]), Nat.shiftLeft_eq, Int.natCast_mul, Int.natCast_pow, ← Int.neg_mul, show -((t.natAbs : Nat) : Int) = t by omega]
      rfl
    · rw [if_neg (by simp [ht]), Nat.shiftLeft_eq, Int.natCast_mul, Int.natCast_pow, show ((t.natAbs : Nat) : Int) = t by omega]
      rfl
theorem gw_sum {s t : Bool} {m n : Nat} {i j a c : Int} (g1 : Gv s m i a) (g2 : Gv t n j c) (hac : (a + c).natAbs < 2 ^ 53) :
    ∃ r, ((Datum.number s m i).sum (Datum.number t n j)).map double.write = some r ∧ Gw r (a + c) := by
  refine ⟨_, rfl, gw_nearest _ _ _ _ ?_ hac⟩
  obtain ⟨b1, g1⟩ := g1.at
  obtain ⟨b2, g2⟩ := g2.at
  obtain ⟨N, h1, h2⟩ : ∃ N : Nat, b1 ≤ N ∧ b2 ≤ N := ⟨b1 + b2, by omega, by omega⟩
  have p1 := g1 N h1
  have p2 := g2 N h2
  refine ⟨N, by omega, ?_⟩
  rw [gv_int]
  · rw [show (i + (N : Int)).toNat = (i - min i j).toNat + (min i j + N).toNat by omega, sg_shift] at p1
    rw [show (j + (N : Int)).toNat = (j - min i j).toNat + (min i j + N).toNat by omega, sg_shift] at p2
    rw [Int.add_mul, p1.2, p2.2, Int.add_mul]
  · by_cases ht : signed s m (i - min i j).toNat + signed t n (j - min i j).toNat = 0
    · exact Or.inl ht
    · exact Or.inr (by rw [if_neg ht])
theorem gw_add {x y : Nat} {a c : Int} (hx : Gw x a) (hy : Gw y c) (h : (a + c).natAbs < 2 ^ 53) : ∃ r, floatBits .add .f64 x y = some r ∧ Gw r (a + c) := by
  obtain ⟨_, s, m, i, e1, g1⟩ := hx
  obtain ⟨_, t, n, j, e2, g2⟩ := hy
  obtain ⟨r, hr, hg⟩ := gw_sum g1 g2 h
  refine ⟨r, ?_, hg⟩
  show ((double.read x).sum (double.read y)).map double.write = _
  rw [e1, e2, hr]
theorem gv_neg {t : Bool} {n : Nat} {j c : Int} (h : Gv t n j c) : Gv (!t) n j (-c) := by
  obtain ⟨b, h1, h2⟩ := h
  refine ⟨b, h1, ?_⟩
  rw [Int.neg_mul, ← h2]
  unfold signed
  cases t <;> simp
theorem gw_sub {x y : Nat} {a c : Int} (hx : Gw x a) (hy : Gw y c) (h : (a - c).natAbs < 2 ^ 53) : ∃ r, floatBits .sub .f64 x y = some r ∧ Gw r (a - c) := by
  obtain ⟨_, s, m, i, e1, g1⟩ := hx
  obtain ⟨_, t, n, j, e2, g2⟩ := hy
  obtain ⟨r, hr, hg⟩ := gw_sum g1 (gv_neg g2) (by rw [← Int.sub_eq_add_neg]; exact h)
  rw [← Int.sub_eq_add_neg] at hg
  refine ⟨r, ?_, hg⟩
  show ((double.read x).sum (double.read y).opposite).map double.write = _
  rw [e1, e2]
  exact hr
theorem sg_mul (s t : Bool) (m n a b : Nat) : signed (s ^^ t) (m * n) (a + b) = signed s m a * signed t n b := by
  unfold signed
  have e : (m * n) <<< (a + b) = m <<< a * n <<< b := by rw [Nat.shiftLeft_eq, Nat.shiftLeft_eq, Nat.shiftLeft_eq, Nat.pow_add, Nat.mul_mul_mul_comm]
  rw [e]
  cases s <;> cases t <;> simp [Int.natCast_mul, Int.neg_mul, Int.mul_neg]
theorem gw_mul {x y : Nat} {a c : Int} (hx : Gw x a) (hy : Gw y c) (h : (a * c).natAbs < 2 ^ 53) : ∃ r, floatBits .mul .f64 x y = some r ∧ Gw r (a * c) := by
  obtain ⟨_, s, m, i, e1, g1⟩ := hx
  obtain ⟨_, t, n, j, e2, g2⟩ := hy
  refine ⟨double.nearest (s ^^ t) (m * n) (i + j), ?_, gw_nearest _ _ _ _ ?_ h⟩
  · show ((double.read x).product (double.read y)).map double.write = _
    rw [e1, e2]
    rfl
  · obtain ⟨b1, h1, h2⟩ := g1
    obtain ⟨b2, h3, h4⟩ := g2
    refine ⟨b1 + b2, by omega, ?_⟩
    rw [show (i + j + ((b1 + b2 : Nat) : Int)).toNat = (i + b1).toNat + (j + b2).toNat by omega, sg_mul, h2, h4, Int.pow_add]
    rw [Int.mul_assoc, Int.mul_assoc, Int.mul_left_comm (2 ^ b1)]
theorem gw_of (n : Int) (h : n.natAbs < 2 ^ 53) : Gw (floatOfInt .f64 n) n := by
  refine gw_nearest _ _ _ _ ⟨0, by decide, ?_⟩ h
  exact gv_int n _ _ (Or.inr rfl)
theorem gw_cut {s : Bool} {m : Nat} {i a : Int} (g : Gv s m i a) (way : Toward) : way.cut s (m <<< i.toNat) (-i).toNat = a.natAbs := by
  obtain ⟨b0, g⟩ := g.at
  obtain ⟨b, hb1, hb2⟩ : ∃ b : Nat, b0 ≤ b ∧ 0 ≤ i + (b : Int) := ⟨b0, Nat.le_refl _, (g b0 (Nat.le_refl _)).1⟩
  have ga := congrArg Int.natAbs (g b hb1).2
  rw [sg_abs, Int.natAbs_mul, Int.natAbs_pow] at ga
  have ga : m * 2 ^ (i + (b : Int)).toNat = a.natAbs * 2 ^ b := ga
  by_cases hi : 0 ≤ i
  · rw [show (-i).toNat = 0 by omega, cut_none, Nat.shiftLeft_eq]
    rw [show (i + (b : Int)).toNat = i.toNat + b by omega, Nat.pow_add, ← Nat.mul_assoc] at ga
    exact Nat.eq_of_mul_eq_mul_right (Nat.two_pow_pos _) ga
  · obtain ⟨dr, hdr⟩ : ∃ dr : Nat, (-i).toNat = dr := ⟨_, rfl⟩
    have e0 : m = a.natAbs * 2 ^ dr := by
      have e1 : b = dr + (i + (b : Int)).toNat := by omega
      rw [e1, Nat.pow_add, ← Nat.mul_assoc, ← e1] at ga
      exact Nat.eq_of_mul_eq_mul_right (Nat.two_pow_pos _) ga
    rw [hdr, show i.toNat = 0 by omega, Nat.shiftLeft_zero, e0]
    by_cases ha : a.natAbs = 0
    · rw [ha, Nat.zero_mul]; exact cut_zero _ _ _
    · exact cut_exact _ _ _ _ (Or.inl ha)
theorem gv_whole {s : Bool} {m : Nat} {i a : Int} (g : Gv s m i a) (k : Nat) : signed s a.natAbs k = a * 2 ^ k := by
  refine gv_int a s k ?_
  obtain ⟨b, h1, h2⟩ := g
  have hp := pow_pos2 b
  by_cases ha : a = 0
  · exact Or.inl ha
  · refine Or.inr ?_
    cases s with
    | true =>
      have : a * 2 ^ b ≤ 0 * 2 ^ b := by rw [← h2, Int.zero_mul]; unfold signed; rw [if_pos rfl]; exact Int.neg_nonpos_of_nonneg (Int.natCast_nonneg _)
      have := Int.le_of_mul_le_mul_right this hp
      exact (decide_eq_true (by omega)).symm
    | false =>
      have : 0 * 2 ^ b ≤ a * 2 ^ b := by rw [← h2, Int.zero_mul]; unfold signed; rw [if_neg (by decide)]; exact Int.natCast_nonneg _
      have := Int.le_of_mul_le_mul_right this hp
      exact (decide_eq_false (by omega)).symm
theorem gw_int {x : Nat} {a : Int} (hx : Gw x a) (ha : a.natAbs < 2 ^ 53) : floatToIntVal .f64 x .i64 = some a := by
  obtain ⟨_, s, m, i, e1, g⟩ := hx
  have e : (FloatKind.f64.decode x).toInt .zero = some a := by
    show (double.read x).toInt .zero = some a
    rw [e1]
    show some (signed s (Toward.zero.cut s (m <<< i.toNat) (-i).toNat) 0) = some a
    rw [gw_cut g, gv_whole g, Int.pow_zero, Int.mul_one]
  unfold floatToIntVal
  rw [e]
  have h1 : IntKind.i64.min = -9223372036854775808 := by decide
  have h2 : IntKind.i64.max = 9223372036854775807 := by decide
  show (if IntKind.i64.min ≤ a ∧ a ≤ IntKind.i64.max then some a else none) = some a
  rw [h1, h2, if_pos (by omega)]
theorem gw_trunc {x : Nat} {a : Int} (hx : Gw x a) (ha : a.natAbs < 2 ^ 53) : Gw (FloatKind.f64.encode ((FloatKind.f64.decode x).integral .zero)) a := by
  obtain ⟨_, s, m, i, e1, g⟩ := hx
  show Gw (double.write ((double.read x).integral .zero)) a
  rw [e1]
  show Gw (double.nearest s (Toward.zero.cut s (m <<< i.toNat) (-i).toNat) 0) a
  rw [gw_cut g]
  exact gw_nearest _ _ _ _ ⟨0, by decide, gv_whole g _⟩ ha
theorem gw_number {x : Nat} {a : Int} (hx : Gw x a) : ∃ s m i, FloatKind.f64.decode x = .number s m i := by
  obtain ⟨_, s, m, i, e1, g⟩ := hx
  exact ⟨s, m, i, e1⟩
theorem read_low {x : Nat} {s : Bool} {m : Nat} {i : Int} (h : double.read x = .number s m i) : double.read (x % 2 ^ 63) = .number false m i := by
  have sw : double.signWeight = 2 ^ 63 := rfl
  unfold Format.read at h ⊢
  rw [sw] at h ⊢
  have e1 : x % 2 ^ 63 / 2 ^ 63 % 2 = 0 := by omega
  have e2 : x % 2 ^ 63 % 2 ^ 63 = x % 2 ^ 63 := by omega
  simp only [e1, e2]
  revert h
  simp only
  split
  · intro h; cases h; rfl
  · split
    · intro h; cases h; rfl
    · split <;> (intro h; cases h)
theorem gw_abs {x : Nat} {a : Int} (hx : Gw x a) : Gw (x % 2 ^ 63) (a.natAbs : Int) := by
  obtain ⟨hl, s, m, i, e1, b, h1, h2⟩ := hx
  refine ⟨by omega, false, m, i, read_low e1, b, h1, ?_⟩
  have := congrArg Int.natAbs h2
  rw [sg_abs, Int.natAbs_mul, Int.natAbs_pow] at this
  unfold signed
  rw [if_neg (by decide), Nat.shiftLeft_eq, this, Int.natCast_mul, Int.natCast_pow]
  rfl
end Go.Proofs.Ytbhidokfclchlaa
