/-
  Contracts of the reference's Place and At.
-/
import Derived.Test.YtpmhpakjlagfjaaJn
namespace Go.Proofs.Ytpmhpakjlagfjaa
open Go.RowKit
theorem pla_of_none : ∀ l s, cn s l = 0 → pla s l = 0 := by
  intro l
  induction l with
  | zero => intro s _; rfl
  | succ l ih =>
    intro s h
    have h0 : s % 2 + cn (s / 2) l = 0 := h
    rw [pla_even (by omega), h, ih (s / 2) (by omega)]
    rfl
/-- The reference's Place, halfway: i numbers are behind, v is the next to look at, q are counted; P in all. -/
def RpI (s n i v q P : Nat) : Prop := cn s v = i ∧ v ≤ n ∧ q + pla (s / 2 ^ v) (n - v) = P
theorem RpI.start (s n : Nat) : RpI s n 0 0 0 (pla s n) := ⟨rfl, Nat.zero_le _, by rw [Nat.pow_zero, Nat.div_one, Nat.sub_zero, Nat.zero_add]⟩
theorem RpI.le {s n i v q P : Nat} (I : RpI s n i v q P) (hi : i < cn s n) : v ≤ lf s n i := by
  obtain ⟨a, b, c⟩ := lf_spec hi
  apply Classical.byContradiction
  intro hn
  have h1 := cn_mono (s := s) (show lf s n i + 1 ≤ v by omega)
  rw [cn_top, b, c, I.1] at h1
  omega
theorem RpI.skip {s n i v q P : Nat} (I : RpI s n i v q P) (hi : i < cn s n) (hv : v < lf s n i) : q + bin (n - v - 1) (cn s n - i - 1) ≤ P ∧ RpI s n i (v + 1) (q + bin (n - v - 1) (cn s n - i - 1)) P := by
  obtain ⟨a, b, c⟩ := lf_spec hi
  obtain ⟨h1, h2, h3⟩ := I
  have h4 := cn_mono (s := s) (show v + 1 ≤ lf s n i by omega)
  have h5 := cn_top v s
  have h6 : bt s v = 0 := by omega
  obtain ⟨l, hl⟩ : ∃ l, n - v = l + 1 := ⟨n - v - 1, by omega⟩
  have h7 := cn_split v (l + 1) s
  rw [show v + (l + 1) = n by omega] at h7
  rw [hl, pla_even (show s / 2 ^ v % 2 = 0 from h6), div_up] at h3
  obtain ⟨m, hm⟩ : ∃ m, cn (s / 2 ^ v) (l + 1) = m + 1 := ⟨cn (s / 2 ^ v) (l + 1) - 1, by omega⟩
  rw [hm] at h3 h7
  have h8 : q + (bin l m + pla (s / 2 ^ (v + 1)) l) = P := h3
  rw [show n - v - 1 = l by omega, show cn s n - i - 1 = m by omega]
  refine ⟨by omega, by omega, by omega, ?_⟩
  rw [show n - (v + 1) = l by omega]
  omega
theorem RpI.take {s n i v q P : Nat} (I : RpI s n i v q P) (hi : i < cn s n) (hv : v = lf s n i) : RpI s n (i + 1) (v + 1) q P := by
  obtain ⟨a, b, c⟩ := lf_spec hi
  obtain ⟨h1, h2, h3⟩ := I
  rw [← hv] at a b
  obtain ⟨l, hl⟩ : ∃ l, n - v = l + 1 := ⟨n - v - 1, by omega⟩
  rw [hl, pla_odd (show s / 2 ^ v % 2 = 1 from b), div_up] at h3
  refine ⟨by rw [cn_top, b, h1], by omega, ?_⟩
  rw [show n - (v + 1) = l by omega]
  exact h3
theorem RpI.end {s n v q P : Nat} (I : RpI s n (cn s n) v q P) : q = P := by
  obtain ⟨h1, h2, h3⟩ := I
  have h7 := cn_split v (n - v) s
  rw [show v + (n - v) = n by omega] at h7
  rw [pla_of_none (n - v) (s / 2 ^ v) (by omega)] at h3
  exact h3
set_option maxHeartbeats 2000000 in
theorem rplace_ok (n s : Nat) (w : World) (hn : n ≤ 64) (hs : s < 2 ^ n) :
    Calls Try.prog 29 #[.int .i64 (n : Int), .int .u64 (s : Int)] w fun e w' => e = .returned (.tuple #[.int .i64 ((pla s n : Nat) : Int), .int .i64 0]) ∧ Below w.heap.size w w' := by
  have hs6 := lt_64 hn hs
  obtain ⟨A, HA⟩ : ∃ A : Nat, Hid ((2 ^ n - 1 : Nat) = A) := ⟨_, rfl⟩
  obtain ⟨z, hz1, hz2⟩ := j_andnot hs6 hn HA.out
  have han : bits .andNot .u64 (s : Int) (A : Int) = 0 := by rw [hz1, hz2.2 hs]; rfl
  obtain ⟨P, HP⟩ : ∃ P, Hid (pla s n = P) := ⟨_, rfl⟩
  have HPs : Hid (P ≤ 1832624140942590534) := by show _ ≤ _; rw [← HP.out]; exact Nat.le_trans (Nat.le_of_lt (pla_lt n s)) (bin_small hn)
  obtain ⟨f, K, hK, HSt, HLe, HSkip, HTake, HEnd, hf, HL⟩ : ∃ (f : Nat → Nat) (K : Nat), K ≤ n ∧ Hid (RpI s n 0 0 0 P) ∧
      Hid (∀ i v q, i < K → RpI s n i v q P → v ≤ f i) ∧
      Hid (∀ i v q, i < K → RpI s n i v q P → v < f i → q + bin (n - v - 1) (K - i - 1) ≤ P ∧ RpI s n i (v + 1) (q + bin (n - v - 1) (K - i - 1)) P) ∧
      Hid (∀ i v q, i < K → RpI s n i v q P → v = f i → RpI s n (i + 1) (v + 1) q P) ∧
      Hid (∀ v q, RpI s n K v q P → q = P) ∧ Hid (∀ i, i < K → f i < n) ∧
      Hid (∀ w' : World, Calls Try.prog 13 #[.int .u64 (s : Int)] w' fun e w'' => ∃ x d, e = .returned (.slice x K d) ∧ Jo w'' w'.heap.size 3 .i64 (.slice x K d) K f ∧ Below w'.heap.size w' w'') := by
    refine ⟨lf s n, cn s n, cn_le n s, by rw [← HP.out]; exact RpI.start s n, fun i v q hi I => I.le hi, fun i v q hi I hv => I.skip hi hv, fun i v q hi I hv => I.take hi hv, fun v q I => I.end, fun i hi => (lf_spec hi).1, fun w' => (rlist_ok s w' hs6).mono (fun e w'' h => ?_)⟩
    obtain ⟨v, he, ho, hb⟩ := h
    rw [cn_all hn hs] at ho
    obtain ⟨x, d, rfl, _⟩ := ho.form
    exact ⟨x, d, he, ho.congr (fun t _ => lf_all hn hs t), hb⟩
  rw [HP.out]
  clear hz1 hz2 hs hs6 HP
  go_enter Try.func29, Try.ntmps29
  go_wp2_with (first
   | (go_at_call 12; refine (rfull_ok n _ hn).mono ?_; rintro e w' ⟨rfl, rfl⟩; rw [HA.out])
   | (go_at_call 13; refine (HL.out _).mono ?_; rintro e w1 ⟨xs, d1, rfl, hj, hb⟩; have HJ : Hid (Jo w1 w.heap.size 3 .i64 (.slice xs K d1) K f) := hj; have HB : Hid (Below w.heap.size w w1) := hb; clear hj hb))
  clear HL HA han
  go_loopw [9, 10, 11] (fun vq vf vi wr => ∃ i v q : Nat, i ≤ K ∧ v ≤ n ∧ Hid (RpI s n i v q P) ∧ vi = .int .i64 (i : Int) ∧ vf = .int .i64 (v : Int) ∧ vq = .int .i64 (q : Int) ∧ Below w1.heap.size w1 wr) (fun _ _ vi _ => K - (intOf vi).toNat)
  case atStart => exact ⟨0, 0, 0, by omega, by omega, HSt, rfl, rfl, rfl, Below.refl _ _⟩
  case round =>
    clear HSt
    obtain ⟨i, v, q, hi, hv, HI, rfl, rfl, rfl, hb⟩ := hrel
    have HBi : Hid (Below w1.heap.size w1 wr) := hb
    clear hb
    by_cases hlt : i < K
    · have hle := HLe.out i v q hlt HI.out
      have hfn := hf.out i hlt
      obtain ⟨g, rfl, hg1, hg2⟩ := HJ.out.addr (by omega)
      have hc := (HJ.out.later HBi.out).cell i hlt
      obtain ⟨x, HX⟩ : ∃ x, Hid (f i = x) := ⟨_, rfl⟩
      rw [HX.out] at hc hle hfn
      have p0 : (0 : Int) ≤ (i : Int) := by omega
      have p1 : (i : Int) < (K : Int) := by omega
      go_wp2
      go_loopw [9, 12] (fun vq vv wr => ∃ v q : Nat, v ≤ x ∧ Hid (RpI s n i v q P) ∧ vv = .int .i64 (v : Int) ∧ vq = .int .i64 (q : Int) ∧ Below w1.heap.size w1 wr) (fun _ vv _ => x - (intOf vv).toNat)
      case atStart => exact ⟨v, q, hle, HI, rfl, rfl, HBi.out⟩
      case round =>
        clear HI HBi hc hle hv
        obtain ⟨v, q, hvx, HI, rfl, rfl, hb⟩ := hrel
        have HBv : Hid (Below w1.heap.size w1 wr) := hb
        clear hb
        have hc := (HJ.out.later HBv.out).cell i hlt
        rw [HX.out] at hc
        by_cases hvlt : v < x
        · obtain ⟨h1, h2⟩ := HSkip.out i v q hlt HI.out (by rw [HX.out]; exact hvlt)
          obtain ⟨N, hN⟩ : ∃ N, n - v - 1 = N := ⟨_, rfl⟩
          obtain ⟨M, hM⟩ : ∃ M, K - i - 1 = M := ⟨_, rfl⟩
          obtain ⟨c, HC⟩ : ∃ c, Hid (bin N M = c) := ⟨_, rfl⟩
          obtain ⟨q', hq'⟩ : ∃ q', q + c = q' := ⟨_, rfl⟩
          have HI2 : Hid (RpI s n i (v + 1) q' P) := by rw [hN, hM, HC.out, hq'] at h2; exact h2
          rw [hN, hM, HC.out, hq'] at h1
          have e1 : (n : Int) - (v : Int) = (N : Int) + 1 := by omega
          have e2 : (K : Int) - (i : Int) = (M : Int) + 1 := by omega
          have e3 : (q : Int) + (c : Int) = (q' : Int) := by omega
          have hPs := HPs.out
          have hq6 : q' ≤ 1832624140942590534 := by omega
          have HCh : Hid (∀ w : World, Calls Try.prog 20 #[.int .i64 (N : Int), .int .i64 (M : Int)] w fun e w' => e = .returned (.tuple #[.int .i64 (c : Int), .int .i64 0]) ∧ Below w.heap.size w w') := fun w => by
            have h := rchoose6_ok N M w (by omega)
            rw [chs_nat, HC.out] at h
            exact h
          have hN6 : N ≤ 64 := by omega
          have hM6 : M ≤ 64 := by omega
          have c1 : decide ((v : Int) < (x : Int)) = true := decide_eq_true (by omega)
          have c2 : decide (v < x) = true := decide_eq_true hvlt
          clear HI h2 HC hq' HSkip HTake HEnd HLe hf HX HJ hPs HPs
          go_wp2_with (go_at_call 20; refine (HCh.out _).mono ?_; rintro e w2 ⟨rfl, hb⟩; have HB2 : Hid (Below w1.heap.size w1 w2) := jtwo HBv.out hb; clear hb)
          exact ⟨⟨v + 1, q', by omega, HI2, by go_num, by go_num, HB2.out⟩, by simp [intOf]; omega⟩
        · obtain rfl : v = x := by omega
          have HI2 : Hid (RpI s n (i + 1) (v + 1) q P) := HTake.out i v q hlt HI.out HX.out.symm
          have c1 : decide ((v : Int) < (v : Int)) = false := decide_eq_false (by omega)
          have c2 : decide (v < v) = false := decide_eq_false hvlt
          clear HI HSkip HTake HEnd HLe hf HX HJ HPs
          go_wp2
          exact ⟨⟨i + 1, v + 1, q, by omega, by omega, HI2, by go_num, by go_num, rfl, HBv.out⟩, by simp [intOf]; omega⟩
    · obtain rfl : i = K := by omega
      have HR : Hid (q = P) := HEnd.out v q HI.out
      clear HI HSkip HTake HEnd HLe hf HJ HPs
      go_wp2
      go_ret2
      exact ⟨by rw [HR.out]; rfl, jtwo HB.out HBi.out⟩
set_option maxHeartbeats 400000 in
theorem rplace_bad (n : Int) (s : Nat) (w : World) (h : n < 0 ∨ 64 < n) :
    Calls Try.prog 29 #[.int .i64 n, .int .u64 (s : Int)] w fun e w' => e = .returned (.tuple #[.int .i64 0, .int .i64 2]) ∧ w = w' := by
  go_enter Try.func29, Try.ntmps29
  go_wp2_with (go_at_call 12; refine (rfull_bad n _ h).mono ?_; rintro e w' ⟨rfl, rfl⟩)
  go_ret2
  exact ⟨rfl, rfl⟩
set_option maxHeartbeats 400000 in
theorem rplace_no (n s : Nat) (w : World) (hn : n ≤ 64) (hs6 : s < 18446744073709551616) (h : ¬ s < 2 ^ n) :
    Calls Try.prog 29 #[.int .i64 (n : Int), .int .u64 (s : Int)] w fun e w' => e = .returned (.tuple #[.int .i64 0, .int .i64 2]) ∧ w = w' := by
  obtain ⟨A, HA⟩ : ∃ A : Nat, Hid ((2 ^ n - 1 : Nat) = A) := ⟨_, rfl⟩
  obtain ⟨z, hz1, hz2⟩ := j_andnot hs6 hn HA.out
  have hz3 : ((z : Int) == 0) = false := by
    simp only [beq_eq_false_iff_ne, ne_eq]
    intro e
    exact h (hz2.1 (by omega))
  clear hz2 h hs6
  go_enter Try.func29, Try.ntmps29
  go_wp2_with (go_at_call 12; refine (rfull_ok n _ hn).mono ?_; rintro e w' ⟨rfl, rfl⟩; rw [HA.out])
  go_ret2
  exact ⟨rfl, rfl⟩
set_option maxHeartbeats 400000 in
theorem rat_ok (n k p : Nat) (w : World) (hn : n ≤ 64) (hk : k ≤ n) (hp : p < bin n k) :
    Calls Try.prog 42 #[.int .i64 (n : Int), .int .i64 (k : Int), .int .i64 (p : Int)] w fun e w' => e = .returned (.tuple #[.int .u64 ((aset n k p : Nat) : Int), .int .i64 0]) ∧ Below w.heap.size w w' := by
  obtain ⟨x, HX⟩ : ∃ x, Hid (bin n k = x) := ⟨_, rfl⟩
  obtain ⟨R, HR⟩ : ∃ R, Hid (aset n k p = R) := ⟨_, rfl⟩
  have HST : Hid (AtI n 0 k x p 0 R) := ⟨by omega, HX.out, by rw [← HX.out]; exact hp, by omega, by rw [Nat.pow_zero, Nat.sub_zero, Nat.one_mul, Nat.zero_add]; exact HR.out⟩
  have hxs : x ≤ 1832624140942590534 := by rw [← HX.out]; exact bin_small hn
  rw [HX.out] at hp
  have g1 : decide ((p : Int) < 0) = false := decide_eq_false (by omega)
  have g2 : decide (x ≤ p) = false := decide_eq_false (by omega)
  have g3 : decide ((x : Int) ≤ (p : Int)) = false := decide_eq_false (by omega)
  rw [HR.out]
  go_enter Try.func42, Try.ntmps42
  go_wp2_with (
    (go_at_call 20; refine (rchoose6_ok n k _ hn).mono ?_; rintro e w1 ⟨rfl, hb⟩; rw [chs_nat, HX.out]; have HB0 : Hid (Below w.heap.size w w1) := hb; clear hb))
  go_loopw [1, 2, 10, 11] (fun vm vq vz vv wr => ∃ v m x q z : Nat, v ≤ n ∧ Hid (AtI n v m x q z R) ∧ vv = .int .i64 (v : Int) ∧ vm = .int .i64 (m : Int) ∧ vq = .int .i64 (q : Int) ∧ vz = .int .u64 (z : Int) ∧ Below w.heap.size w wr) (fun _ _ _ vv _ => n - (intOf vv).toNat)
  case atStart => exact ⟨0, k, x, p, 0, by omega, HST, rfl, rfl, rfl, rfl, HB0.out⟩
  case round =>
    clear HB0 HST HX hxs
    obtain ⟨j, m, x, q, z, hj, HI, rfl, rfl, rfl, rfl, hb⟩ := hrel
    have HB : Hid (Below w.heap.size w wr) := hb
    clear hb
    cases m with
    | zero =>
      have HRR : Hid (z = R) := by have := HI.out.2.2.2.2; rw [aset_none, Nat.mul_zero, Nat.add_zero] at this; exact this
      clear HI
      go_wp2
      go_ret2
      exact ⟨by rw [← HRR.out]; rfl, HB.out⟩
    | succ m' =>
      obtain ⟨m, hmm⟩ : ∃ m, m = m' + 1 := ⟨_, rfl⟩
      rw [← hmm] at HI ⊢
      have hjn : j < n := by
        apply Classical.byContradiction
        intro hge
        have h1 := HI.out.2.1
        have h2 := HI.out.2.2.1
        rw [show n - j = 0 by omega, bin_above 0 m (by omega)] at h1
        omega
      obtain ⟨l, hl⟩ : ∃ l, n - j = l + 1 := ⟨n - j - 1, by omega⟩
      obtain ⟨y, HY⟩ : ∃ y, Hid (bw l m = y) := ⟨_, rfl⟩
      have HX : Hid (bin (l + 1) m = x) := by show _ = _; rw [← hl]; exact HI.out.2.1
      have hm : m ≤ 64 := HI.out.1
      have hq : q < x := HI.out.2.2.1
      have hz : z < 2 ^ j := HI.out.2.2.2.1
      have hxs : x ≤ 1832624140942590534 := by rw [← HX.out]; exact bin_small (by omega)
      have HCh : Hid (∀ w : World, Calls Try.prog 20 #[.int .i64 (l : Int), .int .i64 (m' : Int)] w fun e w' => e = .returned (.tuple #[.int .i64 (y : Int), .int .i64 0]) ∧ Below w.heap.size w w') := fun w => by
        have h := rchoose6_ok l m' w (by omega)
        rw [chs_nat, show bin l m' = y by rw [← HY.out, hmm]; rfl] at h
        exact h
      have e1 : (n : Int) - (j : Int) = (l : Int) + 1 := by omega
      have e2 : (m : Int) - 1 = (m' : Int) := by omega
      have c0 : decide ((0 : Int) < (m : Int)) = true := decide_eq_true (by omega)
      have hl6 : l ≤ 64 := by omega
      have hm6 : m' ≤ 64 := by omega
      by_cases hbit : q < y
      · obtain ⟨hm0, HI2⟩ := HI.out.inn hl (by rw [HY.out]; exact hbit)
        obtain ⟨T, hT⟩ : ∃ T, 2 ^ j = T := ⟨_, rfl⟩
        obtain ⟨z', hz'⟩ : ∃ z', z + T = z' := ⟨_, rfl⟩
        have hj6 : j < 64 := by omega
        have hp2 : IntKind.u64.wrap (2 ^ j) = (T : Int) := by rw [← hT]; exact j_pow j hj6
        have hT6 := j_pow_lt hj6
        have hor : bits .or .u64 (z : Int) (T : Int) = (z' : Int) := by
          rw [u64_or_nat z T (by omega) (by omega), ← hT, or_top hz, hT, hz']
        have HI3 : Hid (AtI n (j + 1) m' y q z' R) := by rw [HY.out, hT, hz', show m - 1 = m' by omega] at HI2; exact HI2
        have c1 : decide ((q : Int) < (y : Int)) = true := decide_eq_true (by omega)
        have c2 : decide (q < y) = true := decide_eq_true hbit
        clear HI HI2 HX HY hl hz hT hz' hT6 hq
        go_wp2_with (go_at_call 20; refine (HCh.out _).mono ?_; rintro e w2 ⟨rfl, hb2⟩; have HB2 : Hid (Below w.heap.size w w2) := jtwo HB.out hb2; clear hb2)
        exact ⟨⟨j + 1, m', y, q, z', by omega, HI3, by go_num, by go_num, rfl, rfl, HB2.out⟩, by simp [intOf]; omega⟩
      · obtain ⟨h1, HI2⟩ := HI.out.out hl (by rw [HY.out]; exact hbit)
        have HI3 : Hid (AtI n (j + 1) m (x - y) (q - y) z R) := by rw [HY.out] at HI2; exact HI2
        rw [HY.out] at h1
        obtain ⟨q', hq'⟩ : ∃ q', q - y = q' := ⟨_, rfl⟩
        rw [hq'] at HI3
        have e3 : (q : Int) - (y : Int) = (q' : Int) := by omega
        have hq6 : q' ≤ 1832624140942590534 := by omega
        have c1 : decide ((q : Int) < (y : Int)) = false := decide_eq_false (by omega)
        have c2 : decide (q < y) = false := decide_eq_false hbit
        clear HI HI2 HX HY hl hz hq' hq
        go_wp2_with (go_at_call 20; refine (HCh.out _).mono ?_; rintro e w2 ⟨rfl, hb2⟩; have HB2 : Hid (Below w.heap.size w w2) := jtwo HB.out hb2; clear hb2)
        exact ⟨⟨j + 1, m, x - y, q', z, by omega, HI3, by go_num, (by rw [hmm]; rfl), by go_num, rfl, HB2.out⟩, by simp [intOf]; omega⟩
set_option maxHeartbeats 400000 in
theorem rat_bad (n k p : Int) (w : World) (h : n < 0 ∨ 64 < n) :
    Calls Try.prog 42 #[.int .i64 n, .int .i64 k, .int .i64 p] w fun e w' => e = .returned (.tuple #[.int .u64 0, .int .i64 2]) ∧ w = w' := by
  go_enter Try.func42, Try.ntmps42
  go_wp2_with (go_at_call 20; refine (rchoose6_bad n k _ h).mono ?_; rintro e w' ⟨rfl, rfl⟩)
  go_ret2
  exact ⟨rfl, rfl⟩
set_option maxHeartbeats 400000 in
theorem rat_no (n : Nat) (k p : Int) (w : World) (hn : n ≤ 64) (h : p < 0 ∨ (chs n k : Int) ≤ p) :
    Calls Try.prog 42 #[.int .i64 (n : Int), .int .i64 k, .int .i64 p] w fun e w' => e = .returned (.tuple #[.int .u64 0, .int .i64 2]) ∧ Below w.heap.size w w' := by
  obtain ⟨c, HC⟩ : ∃ c, Hid (chs n k = c) := ⟨_, rfl⟩
  rw [HC.out] at h
  by_cases h0 : p < 0
  · go_enter Try.func42, Try.ntmps42
    go_wp2_with (go_at_call 20; refine (rchoose6_ok n k _ hn).mono ?_; rintro e w1 ⟨rfl, hb⟩; rw [HC.out]; have HB0 : Hid (Below w.heap.size w w1) := hb; clear hb)
    go_ret2
    exact ⟨rfl, HB0.out⟩
  · have h1 : (c : Int) ≤ p := by omega
    have h2 : 0 ≤ p := by omega
    clear h h0
    go_enter Try.func42, Try.ntmps42
    go_wp2_with (go_at_call 20; refine (rchoose6_ok n k _ hn).mono ?_; rintro e w1 ⟨rfl, hb⟩; rw [HC.out]; have HB0 : Hid (Below w.heap.size w w1) := hb; clear hb)
    go_ret2
    exact ⟨rfl, HB0.out⟩
/-- At of the program and of the reference answer the same. -/
theorem at_pair (n k p : Int) : ∃ (u v : Int), ∀ w : World, (Calls Try.prog 31 #[.int .i64 n, .int .i64 k, .int .i64 p] w fun e w' => e = .returned (.tuple #[.int .u64 u, .int .i64 v]) ∧ Below w.heap.size w w') ∧ (Calls Try.prog 42 #[.int .i64 n, .int .i64 k, .int .i64 p] w fun e w' => e = .returned (.tuple #[.int .u64 u, .int .i64 v]) ∧ Below w.heap.size w w') := by
  by_cases h : n < 0 ∨ 64 < n
  · exact ⟨0, 2, fun w => ⟨(jat_bad n k p w h).mono (fun e w' h => ⟨h.1, h.2 ▸ Below.refl _ _⟩), (rat_bad n k p w h).mono (fun e w' h => ⟨h.1, h.2 ▸ Below.refl _ _⟩)⟩⟩
  · obtain ⟨n, rfl⟩ := Int.eq_ofNat_of_zero_le (show 0 ≤ n by omega)
    have hn : n ≤ 64 := by omega
    by_cases h2 : p < 0 ∨ (chs n k : Int) ≤ p
    · exact ⟨0, 2, fun w => ⟨jat_no n k p w hn h2, rat_no n k p w hn h2⟩⟩
    · obtain ⟨q, rfl⟩ := Int.eq_ofNat_of_zero_le (show 0 ≤ p by omega)
      have h3 : q < chs n k := by omega
      have hk0 : 0 ≤ k := by
        apply Classical.byContradiction
        intro hk
        rw [show chs n k = 0 from if_neg hk] at h3
        omega
      obtain ⟨j, rfl⟩ := Int.eq_ofNat_of_zero_le hk0
      rw [chs_nat] at h3
      have hj : j ≤ n := by
        apply Classical.byContradiction
        intro hj
        rw [bin_above n j (by omega)] at h3
        omega
      exact ⟨_, _, fun w => ⟨jat_ok n j q w hn hj h3, rat_ok n j q w hn hj h3⟩⟩
end Go.Proofs.Ytpmhpakjlagfjaa
