/-
  Contracts of Place and At.
-/
import Derived.Test.YtpmhpakjlagfjaaJe
namespace Go.Proofs.Ytpmhpakjlagfjaa
open Go.RowKit
theorem pow_le_64 {n : Nat} (hn : n ≤ 64) : 2 ^ n ≤ 18446744073709551616 := Nat.pow_le_pow_right (n := 2) (by decide) hn
theorem lt_64 {s n : Nat} (hn : n ≤ 64) (h : s < 2 ^ n) : s < 18446744073709551616 := Nat.lt_of_lt_of_le h (pow_le_64 hn)
theorem cn_all {s n : Nat} (hn : n ≤ 64) (h : s < 2 ^ n) : cn s 64 = cn s n := by
  have h1 := (lf_high (s := s) (i := n) (64 - n) h).1
  rwa [show n + (64 - n) = 64 by omega] at h1
/-- Place, halfway: m are missing, x are alike, q are counted; P in all. -/
def PlI (s n j m x q P : Nat) : Prop := cn (s / 2 ^ j) (n - j) = m ∧ bin (n - j) m = x ∧ q + pla (s / 2 ^ j) (n - j) = P
theorem PlI.start {s n k x P : Nat} (hn : n ≤ 64) (hs : s < 2 ^ n) (hk : cn s 64 = k) (hx : bin n k = x) (hP : pla s n = P) : PlI s n 0 k x 0 P := by
  refine ⟨?_, hx, ?_⟩
  · rw [Nat.pow_zero, Nat.div_one, Nat.sub_zero, ← cn_all hn hs, hk]
  · rw [Nat.pow_zero, Nat.div_one, Nat.sub_zero, Nat.zero_add, hP]
theorem PlI.inn {s n j m x q P l : Nat} (I : PlI s n j m x q P) (hl : n - j = l + 1) (h : bt s j = 1) : 0 < m ∧ PlI s n (j + 1) (m - 1) (bw l m) q P := by
  obtain ⟨a, b, c⟩ := I
  have e : n - (j + 1) = l := by omega
  rw [hl] at a b c
  rw [cn_odd (show s / 2 ^ j % 2 = 1 from h), div_up] at a
  rw [pla_odd (show s / 2 ^ j % 2 = 1 from h), div_up] at c
  refine ⟨by omega, ?_, ?_, ?_⟩
  · rw [e]; omega
  · rw [e, ← a]; rfl
  · rw [e]; exact c
theorem PlI.out {s n j m x q P l : Nat} (I : PlI s n j m x q P) (hl : n - j = l + 1) (h : bt s j = 0) : bw l m ≤ x ∧ q + bw l m ≤ P ∧ PlI s n (j + 1) m (x - bw l m) (q + bw l m) P := by
  obtain ⟨a, b, c⟩ := I
  have e : n - (j + 1) = l := by omega
  rw [hl] at a b c
  rw [pla_even (show s / 2 ^ j % 2 = 0 from h), div_up, a] at c
  rw [cn_even (show s / 2 ^ j % 2 = 0 from h), div_up] at a
  have h1 := bin_bw l m
  refine ⟨by omega, by omega, ?_, ?_, ?_⟩
  · rw [e]; exact a
  · rw [e]; omega
  · rw [e]; omega
set_option maxHeartbeats 400000 in
theorem jplace_ok (n s : Nat) (w : World) (hn : n ≤ 64) (hs : s < 2 ^ n) :
    Calls Try.prog 28 #[.int .i64 (n : Int), .int .u64 (s : Int)] w fun e w' => e = .returned (.tuple #[.int .i64 ((pla s n : Nat) : Int), .int .i64 0]) ∧ Below w.heap.size w w' := by
  have hs6 := lt_64 hn hs
  obtain ⟨k, HK⟩ : ∃ k, Hid (cn s 64 = k) := ⟨_, rfl⟩
  obtain ⟨x, HX⟩ : ∃ x, Hid (bin n k = x) := ⟨_, rfl⟩
  obtain ⟨P, HP⟩ : ∃ P, Hid (pla s n = P) := ⟨_, rfl⟩
  have HPs : Hid (P ≤ 1832624140942590534) := by show _ ≤ _; rw [← HP.out]; exact Nat.le_trans (Nat.le_of_lt (pla_lt n s)) (bin_small hn)
  have hd : decide (s < 2 ^ n) = true := decide_eq_true hs
  have HST : Hid (PlI s n 0 k x 0 P) := PlI.start hn hs HK.out HX.out HP.out
  rw [HP.out]
  clear hs
  go_enter Try.func28, Try.ntmps28
  go_wp2_with (first
    | (go_at_call 37; refine (jset_ok s n _ hn).mono ?_; rintro e w' ⟨rfl, rfl⟩; rw [hd])
    | (go_at_call 16; refine (jcount_ok s _ hs6).mono ?_; rintro e w' ⟨rfl, rfl⟩; rw [HK.out])
    | (go_at_call 19; refine (jchoose_ok n k _ hn).mono ?_; rintro e w1 ⟨rfl, hb⟩; rw [chs_nat, HX.out]; have HB0 : Hid (Below w.heap.size w w1) := hb; clear hb))
  go_loopw [6, 7, 9, 25] (fun vm vx vq i wr => ∃ j m x q : Nat, j ≤ n ∧ Hid (PlI s n j m x q P) ∧ i = .int .i64 (j : Int) ∧ vm = .int .i64 (m : Int) ∧ vx = .int .i64 (x : Int) ∧ vq = .int .i64 (q : Int) ∧ Below w.heap.size w wr) (fun _ _ _ i _ => n - (intOf i).toNat)
  case atStart => exact ⟨0, k, x, 0, by omega, HST, rfl, rfl, rfl, rfl, HB0.out⟩
  case round =>
    clear HB0 HST HX HK hd
    obtain ⟨j, m, x, q, hj, HI, rfl, rfl, rfl, rfl, hb⟩ := hrel
    have HB : Hid (Below w.heap.size w wr) := hb
    clear hb
    by_cases hlt : j < n
    · obtain ⟨l, hl⟩ : ∃ l, n - j = l + 1 := ⟨n - j - 1, by omega⟩
      obtain ⟨L, hL⟩ : ∃ L, L = l + 1 := ⟨_, rfl⟩
      obtain ⟨y, HY⟩ : ∃ y, Hid (bw l m = y) := ⟨_, rfl⟩
      have e1 : (n : Int) - (j : Int) = (L : Int) := by omega
      have HX : Hid (bin (l + 1) m = x) := by show _ = _; rw [← hl]; exact HI.out.2.1
      have hm : m ≤ 64 := by rw [← HI.out.1]; exact Nat.le_trans (cn_le _ _) (by omega)
      have HH : Hid (∀ w' : World, Calls Try.prog 41 #[.int .i64 (x : Int), .int .i64 (m : Int), .int .i64 (L : Int)] w' fun e w'' => e = .returned (.int .i64 (y : Int)) ∧ Below w'.heap.size w' w'') := fun w' => jhaving_ok l m x y L w' (by omega) hm HX HY hL
      have hbt := bt_lt s j
      have HPs' := HPs.out
      by_cases hbit : bt s j = 1
      · obtain ⟨hm0, HI2⟩ := HI.out.inn hl hbit
        have HI3 : Hid (PlI s n (j + 1) (m - 1) y q P) := by rw [HY.out] at HI2; exact HI2
        obtain ⟨m', hm'⟩ : ∃ m', m - 1 = m' := ⟨_, rfl⟩
        rw [hm'] at HI3
        have e2 : (m : Int) - 1 = (m' : Int) := by omega
        have hm6 : m' ≤ 64 := by omega
        have hdb : decide (bt s j = 1) = true := decide_eq_true hbit
        clear HI HI2 HX HY hbit hl hm hL hbt
        go_wp2_with (first
          | (go_at_call 41; refine (HH.out _).mono ?_; rintro e w2 ⟨rfl, hb2⟩; have HB2 : Hid (Below w.heap.size w w2) := jtwo HB.out hb2; clear hb2)
          | (go_at_call 17; refine (jhas_ok s j _ hs6).mono ?_; rintro e w' ⟨rfl, rfl⟩; rw [hdb]))
        exact ⟨⟨j + 1, m', y, q, by omega, HI3, by go_num, by go_num, rfl, rfl, HB2.out⟩, by simp [intOf]; omega⟩
      · obtain ⟨h1, h2, HI2⟩ := HI.out.out hl (by omega)
        have HI3 : Hid (PlI s n (j + 1) m (x - y) (q + y) P) := by rw [HY.out] at HI2; exact HI2
        rw [HY.out] at h1 h2
        obtain ⟨x', hx'⟩ : ∃ x', x - y = x' := ⟨_, rfl⟩
        obtain ⟨q', hq'⟩ : ∃ q', q + y = q' := ⟨_, rfl⟩
        rw [hx', hq'] at HI3
        have hxs : x ≤ 1832624140942590534 := by rw [← HX.out]; exact bin_small (by omega)
        have e2 : (x : Int) - (y : Int) = (x' : Int) := by omega
        have e3 : (q : Int) + (y : Int) = (q' : Int) := by omega
        have hq6 : q' ≤ 1832624140942590534 := by omega
        have hdb : decide (bt s j = 1) = false := decide_eq_false hbit
        clear HI HI2 HX HY hbit hl hm hL hbt hx' hq' h2
        go_wp2_with (first
          | (go_at_call 41; refine (HH.out _).mono ?_; rintro e w2 ⟨rfl, hb2⟩; have HB2 : Hid (Below w.heap.size w w2) := jtwo HB.out hb2; clear hb2)
          | (go_at_call 17; refine (jhas_ok s j _ hs6).mono ?_; rintro e w' ⟨rfl, rfl⟩; rw [hdb]))
        exact ⟨⟨j + 1, m, x', q', by omega, HI3, by go_num, rfl, by go_num, by go_num, HB2.out⟩, by simp [intOf]; omega⟩
    · obtain rfl : j = n := by omega
      have HR : Hid (q = P) := by have := HI.out.2.2; rw [Nat.sub_self] at this; exact this
      clear HI
      go_wp2
      go_ret2
      exact ⟨by rw [← HR.out]; rfl, HB.out⟩
set_option maxHeartbeats 400000 in
theorem jplace_bad (n : Int) (s : Nat) (w : World) (h : n < 0 ∨ 64 < n) :
    Calls Try.prog 28 #[.int .i64 n, .int .u64 (s : Int)] w fun e w' => e = .returned (.tuple #[.int .i64 0, .int .i64 2]) ∧ w = w' := by
  go_enter Try.func28, Try.ntmps28
  go_wp2_with (go_at_call 37; refine (jset_bad s n _ h).mono ?_; rintro e w' ⟨rfl, rfl⟩)
  go_ret2
  exact ⟨rfl, rfl⟩
set_option maxHeartbeats 400000 in
theorem jplace_no (n s : Nat) (w : World) (hn : n ≤ 64) (h : ¬ s < 2 ^ n) :
    Calls Try.prog 28 #[.int .i64 (n : Int), .int .u64 (s : Int)] w fun e w' => e = .returned (.tuple #[.int .i64 0, .int .i64 2]) ∧ w = w' := by
  have hd : decide (s < 2 ^ n) = false := decide_eq_false h
  go_enter Try.func28, Try.ntmps28
  go_wp2_with (go_at_call 37; refine (jset_ok s n _ hn).mono ?_; rintro e w' ⟨rfl, rfl⟩; rw [hd])
  go_ret2
  exact ⟨rfl, rfl⟩
/-- At, halfway: z is made so far. -/
def AtI (n j m x q z R : Nat) : Prop := m ≤ 64 ∧ bin (n - j) m = x ∧ q < x ∧ z < 2 ^ j ∧ z + 2 ^ j * aset (n - j) m q = R
theorem AtI.inn {n j m x q z R l : Nat} (I : AtI n j m x q z R) (hl : n - j = l + 1) (h : q < bw l m) : 0 < m ∧ AtI n (j + 1) (m - 1) (bw l m) q (z + 2 ^ j) R := by
  obtain ⟨a, b, c, d, e⟩ := I
  have e1 : n - (j + 1) = l := by omega
  cases m with
  | zero => exact absurd h (Nat.not_lt_zero _)
  | succ m =>
    refine ⟨by omega, by omega, by rw [e1]; rfl, h, by rw [Nat.pow_succ]; omega, ?_⟩
    rw [e1, ← e, hl, aset_in h, Nat.pow_succ, Nat.mul_add, Nat.mul_assoc]
    omega
theorem AtI.out {n j m x q z R l : Nat} (I : AtI n j m x q z R) (hl : n - j = l + 1) (h : ¬ q < bw l m) : bw l m ≤ x ∧ AtI n (j + 1) m (x - bw l m) (q - bw l m) z R := by
  obtain ⟨a, b, c, d, e⟩ := I
  have e1 : n - (j + 1) = l := by omega
  rw [hl] at b e
  have h1 := bin_bw l m
  refine ⟨by omega, a, by rw [e1]; omega, by omega, by rw [Nat.pow_succ]; omega, ?_⟩
  rw [e1, ← e, aset_out h, Nat.pow_succ, Nat.mul_assoc]
set_option maxHeartbeats 400000 in
theorem jat_ok (n k p : Nat) (w : World) (hn : n ≤ 64) (hk : k ≤ n) (hp : p < bin n k) :
    Calls Try.prog 31 #[.int .i64 (n : Int), .int .i64 (k : Int), .int .i64 (p : Int)] w fun e w' => e = .returned (.tuple #[.int .u64 ((aset n k p : Nat) : Int), .int .i64 0]) ∧ Below w.heap.size w w' := by
  obtain ⟨x, HX⟩ : ∃ x, Hid (bin n k = x) := ⟨_, rfl⟩
  obtain ⟨R, HR⟩ : ∃ R, Hid (aset n k p = R) := ⟨_, rfl⟩
  have HST : Hid (AtI n 0 k x p 0 R) := ⟨by omega, HX.out, by rw [← HX.out]; exact hp, by omega, by rw [Nat.pow_zero, Nat.sub_zero, Nat.one_mul, Nat.zero_add]; exact HR.out⟩
  have hxs : x ≤ 1832624140942590534 := by rw [← HX.out]; exact bin_small hn
  rw [HX.out] at hp
  have g1 : decide ((p : Int) < 0) = false := decide_eq_false (by omega)
  have g2 : decide (x ≤ p) = false := decide_eq_false (by omega)
  have g3 : decide ((x : Int) ≤ (p : Int)) = false := decide_eq_false (by omega)
  rw [HR.out]
  go_enter Try.func31, Try.ntmps31
  go_wp2_with (
    (go_at_call 19; refine (jchoose_ok n k _ hn).mono ?_; rintro e w1 ⟨rfl, hb⟩; rw [chs_nat, HX.out]; have HB0 : Hid (Below w.heap.size w w1) := hb; clear hb))
  go_loopw [2, 8, 10, 11, 33] (fun vq vx vz vm i wr => ∃ j m x q z : Nat, j ≤ n ∧ Hid (AtI n j m x q z R) ∧ i = .int .i64 (j : Int) ∧ vm = .int .i64 (m : Int) ∧ vx = .int .i64 (x : Int) ∧ vq = .int .i64 (q : Int) ∧ vz = .int .u64 (z : Int) ∧ Below w.heap.size w wr) (fun _ _ _ _ i _ => n - (intOf i).toNat)
  case atStart => exact ⟨0, k, x, p, 0, by omega, HST, rfl, rfl, rfl, rfl, rfl, HB0.out⟩
  case round =>
    clear HB0 HST HX hxs
    obtain ⟨j, m, x, q, z, hj, HI, rfl, rfl, rfl, rfl, rfl, hb⟩ := hrel
    have HB : Hid (Below w.heap.size w wr) := hb
    clear hb
    by_cases hlt : j < n
    · obtain ⟨l, hl⟩ : ∃ l, n - j = l + 1 := ⟨n - j - 1, by omega⟩
      obtain ⟨L, hL⟩ : ∃ L, L = l + 1 := ⟨_, rfl⟩
      obtain ⟨y, HY⟩ : ∃ y, Hid (bw l m = y) := ⟨_, rfl⟩
      have e1 : (n : Int) - (j : Int) = (L : Int) := by omega
      have HX : Hid (bin (l + 1) m = x) := by show _ = _; rw [← hl]; exact HI.out.2.1
      have hm : m ≤ 64 := HI.out.1
      have hq : q < x := HI.out.2.2.1
      have hz : z < 2 ^ j := HI.out.2.2.2.1
      have hxs : x ≤ 1832624140942590534 := by rw [← HX.out]; exact bin_small (by omega)
      have HH : Hid (∀ w' : World, Calls Try.prog 41 #[.int .i64 (x : Int), .int .i64 (m : Int), .int .i64 (L : Int)] w' fun e w'' => e = .returned (.int .i64 (y : Int)) ∧ Below w'.heap.size w' w'') := fun w' => jhaving_ok l m x y L w' (by omega) hm HX HY hL
      by_cases hbit : q < y
      · obtain ⟨hm0, HI2⟩ := HI.out.inn hl (by rw [HY.out]; exact hbit)
        obtain ⟨m', hm'⟩ : ∃ m', m - 1 = m' := ⟨_, rfl⟩
        obtain ⟨T, hT⟩ : ∃ T, 2 ^ j = T := ⟨_, rfl⟩
        obtain ⟨z', hz'⟩ : ∃ z', z + T = z' := ⟨_, rfl⟩
        have hj6 : j < 64 := by omega
        have hp2 : IntKind.u64.wrap (2 ^ j) = (T : Int) := by rw [← hT]; exact j_pow j hj6
        have hT6 := j_pow_lt hj6
        have hor : bits .or .u64 (z : Int) (T : Int) = (z' : Int) := by
          rw [u64_or_nat z T (by omega) (by omega), ← hT, or_top hz, hT, hz']
        have HI3 : Hid (AtI n (j + 1) m' y q z' R) := by rw [HY.out, hm', hT, hz'] at HI2; exact HI2
        have e2 : (m : Int) - 1 = (m' : Int) := by omega
        have hm6 : m' ≤ 64 := by omega
        have c1 : decide ((q : Int) < (y : Int)) = true := decide_eq_true (by omega)
        have c2 : decide (q < y) = true := decide_eq_true hbit
        clear HI HI2 HX HY hl hL hz hT hz' hT6 hq
        go_wp2_with (go_at_call 41; refine (HH.out _).mono ?_; rintro e w2 ⟨rfl, hb2⟩; have HB2 : Hid (Below w.heap.size w w2) := jtwo HB.out hb2; clear hb2)
        exact ⟨⟨j + 1, m', y, q, z', by omega, HI3, by go_num, by go_num, rfl, rfl, rfl, HB2.out⟩, by simp [intOf]; omega⟩
      · obtain ⟨h1, HI2⟩ := HI.out.out hl (by rw [HY.out]; exact hbit)
        have HI3 : Hid (AtI n (j + 1) m (x - y) (q - y) z R) := by rw [HY.out] at HI2; exact HI2
        rw [HY.out] at h1
        obtain ⟨x', hx'⟩ : ∃ x', x - y = x' := ⟨_, rfl⟩
        obtain ⟨q', hq'⟩ : ∃ q', q - y = q' := ⟨_, rfl⟩
        rw [hx', hq'] at HI3
        have e2 : (x : Int) - (y : Int) = (x' : Int) := by omega
        have e3 : (q : Int) - (y : Int) = (q' : Int) := by omega
        have hq6 : q' ≤ 1832624140942590534 := by omega
        have c1 : decide ((q : Int) < (y : Int)) = false := decide_eq_false (by omega)
        have c2 : decide (q < y) = false := decide_eq_false hbit
        clear HI HI2 HX HY hl hL hz hx' hq' hq
        go_wp2_with (go_at_call 41; refine (HH.out _).mono ?_; rintro e w2 ⟨rfl, hb2⟩; have HB2 : Hid (Below w.heap.size w w2) := jtwo HB.out hb2; clear hb2)
        exact ⟨⟨j + 1, m, x', q', z, by omega, HI3, by go_num, rfl, by go_num, by go_num, rfl, HB2.out⟩, by simp [intOf]; omega⟩
    · obtain rfl : j = n := by omega
      have HRR : Hid (z = R) := by have := HI.out.2.2.2.2; rw [Nat.sub_self, show aset 0 m q = 0 from rfl, Nat.mul_zero, Nat.add_zero] at this; exact this
      clear HI
      go_wp2
      go_ret2
      exact ⟨by rw [← HRR.out]; rfl, HB.out⟩
set_option maxHeartbeats 400000 in
theorem jat_bad (n k p : Int) (w : World) (h : n < 0 ∨ 64 < n) :
    Calls Try.prog 31 #[.int .i64 n, .int .i64 k, .int .i64 p] w fun e w' => e = .returned (.tuple #[.int .u64 0, .int .i64 2]) ∧ w = w' := by
  go_enter Try.func31, Try.ntmps31
  go_wp2_with (go_at_call 19; refine (jchoose_bad n k _ h).mono ?_; rintro e w' ⟨rfl, rfl⟩)
  go_ret2
  exact ⟨rfl, rfl⟩
set_option maxHeartbeats 400000 in
theorem jat_no (n : Nat) (k p : Int) (w : World) (hn : n ≤ 64) (h : p < 0 ∨ (chs n k : Int) ≤ p) :
    Calls Try.prog 31 #[.int .i64 (n : Int), .int .i64 k, .int .i64 p] w fun e w' => e = .returned (.tuple #[.int .u64 0, .int .i64 2]) ∧ Below w.heap.size w w' := by
  obtain ⟨c, HC⟩ : ∃ c, Hid (chs n k = c) := ⟨_, rfl⟩
  rw [HC.out] at h
  by_cases h0 : p < 0
  · go_enter Try.func31, Try.ntmps31
    go_wp2_with (go_at_call 19; refine (jchoose_ok n k _ hn).mono ?_; rintro e w1 ⟨rfl, hb⟩; rw [HC.out]; have HB0 : Hid (Below w.heap.size w w1) := hb; clear hb)
    go_ret2
    exact ⟨rfl, HB0.out⟩
  · have h1 : (c : Int) ≤ p := by omega
    have h2 : 0 ≤ p := by omega
    clear h h0
    go_enter Try.func31, Try.ntmps31
    go_wp2_with (go_at_call 19; refine (jchoose_ok n k _ hn).mono ?_; rintro e w1 ⟨rfl, hb⟩; rw [HC.out]; have HB0 : Hid (Below w.heap.size w w1) := hb; clear hb)
    go_ret2
    exact ⟨rfl, HB0.out⟩
end Go.Proofs.Ytpmhpakjlagfjaa
