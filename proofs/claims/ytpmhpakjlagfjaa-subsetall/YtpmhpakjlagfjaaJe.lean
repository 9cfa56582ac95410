/-
  Contracts of Choose and Upto.
-/
import Derived.Test.YtpmhpakjlagfjaaJd
namespace Go.Proofs.Ytpmhpakjlagfjaa
open Go.RowKit
set_option maxHeartbeats 400000 in
theorem jlarger_ok (n k x y : Nat) (w : World) (hn : n ≤ 64) (hk : k ≤ n) (HX : Hid (bin n k = x)) (HY : Hid (bin n (k + 1) = y)) :
    Calls Try.prog 35 #[.int .i64 (x : Int), .int .i64 (n : Int), .int .i64 (k : Int)] w fun e w' => e = .returned (.int .i64 (y : Int)) ∧ Below w.heap.size w w' := by
  obtain ⟨p, hp⟩ : ∃ p, n - k = p := ⟨_, rfl⟩
  obtain ⟨q, hq⟩ : ∃ q, k + 1 = q := ⟨_, rfl⟩
  have H : Hid (∀ w' : World, Calls Try.prog 43 #[.int .i64 (x : Int), .int .i64 (p : Int), .int .i64 (q : Int)] w' fun e w'' => e = .returned (.int .i64 (y : Int)) ∧ Below w'.heap.size w' w'') :=
    fun w' => jportion_ok x p q y w' (by rw [← HX.out]; exact bin_small hn) (by omega) (by omega) (by omega) (by rw [← HY.out]; exact bin_small hn) (by rw [← HX.out, ← HY.out, ← hp, ← hq]; exact (bin_step n k).symm)
  have e1 : (n : Int) - (k : Int) = (p : Int) := by omega
  have e2 : (k : Int) + 1 = (q : Int) := by omega
  go_enter Try.func35, Try.ntmps35
  go_wp2_with (go_at_call 43; refine (H.out _).mono ?_; rintro e w1 ⟨rfl, hb⟩)
  go_ret
  exact ⟨rfl, hb⟩
set_option maxHeartbeats 400000 in
theorem jhaving_ok (l m x y L : Nat) (w : World) (hn : l + 1 ≤ 64) (hm : m ≤ 64) (HX : Hid (bin (l + 1) m = x)) (HY : Hid (bw l m = y)) (hL : L = l + 1) :
    Calls Try.prog 41 #[.int .i64 (x : Int), .int .i64 (m : Int), .int .i64 (L : Int)] w fun e w' => e = .returned (.int .i64 (y : Int)) ∧ Below w.heap.size w w' := by
  have H : Hid (∀ w' : World, Calls Try.prog 43 #[.int .i64 (x : Int), .int .i64 (m : Int), .int .i64 (L : Int)] w' fun e w'' => e = .returned (.int .i64 (y : Int)) ∧ Below w'.heap.size w' w'') :=
    fun w' => jportion_ok x m L y w' (by rw [← HX.out]; exact bin_small hn) hm (by omega) (by omega) (by rw [← HY.out]; exact Nat.le_trans (bw_le l m) (bin_small hn)) (by rw [← HX.out, ← HY.out, hL]; exact bw_part l m)
  clear HX HY hL hn hm
  go_enter Try.func41, Try.ntmps41
  go_wp2_with (go_at_call 43; refine (H.out _).mono ?_; rintro e w1 ⟨rfl, hb⟩)
  go_ret
  exact ⟨rfl, hb⟩
set_option maxHeartbeats 400000 in
theorem jchoose_bad (n k : Int) (w : World) (hn : n < 0 ∨ 64 < n) :
    Calls Try.prog 19 #[.int .i64 n, .int .i64 k] w fun e w' => e = .returned (.tuple #[.int .i64 0, .int .i64 2]) ∧ w = w' := by
  go_enter Try.func19, Try.ntmps19
  go_wp2_with (go_at_call 32; refine (jbound_bad _ _ hn).mono ?_; rintro e w' ⟨rfl, rfl⟩)
  go_ret2
  exact ⟨rfl, rfl⟩
set_option maxHeartbeats 400000 in
theorem jchoose_out (n : Nat) (k : Int) (w : World) (hn : n ≤ 64) (hk : k < 0 ∨ n < k) :
    Calls Try.prog 19 #[.int .i64 (n : Int), .int .i64 k] w fun e w' => e = .returned (.tuple #[.int .i64 0, .int .i64 0]) ∧ w = w' := by
  by_cases h : k < 0
  · go_enter Try.func19, Try.ntmps19
    go_wp2_with (go_at_call 32; refine (jbound_ok _ _ hn).mono ?_; rintro e w' ⟨rfl, rfl⟩)
    go_ret2
    exact ⟨rfl, rfl⟩
  · have h1 : (n : Int) < k := by omega
    have h2 : 0 ≤ k := by omega
    clear h hk
    go_enter Try.func19, Try.ntmps19
    go_wp2_with (go_at_call 32; refine (jbound_ok _ _ hn).mono ?_; rintro e w' ⟨rfl, rfl⟩)
    go_ret2
    exact ⟨rfl, rfl⟩
set_option maxHeartbeats 400000 in
theorem jchoose_in (n k : Nat) (w : World) (hn : n ≤ 64) (hk : k ≤ n) :
    Calls Try.prog 19 #[.int .i64 (n : Int), .int .i64 (k : Int)] w fun e w' => e = .returned (.tuple #[.int .i64 ((bin n k : Nat) : Int), .int .i64 0]) ∧ Below w.heap.size w w' := by
  obtain ⟨M, HM⟩ : ∃ M, min k (n - k) = M := ⟨_, rfl⟩
  have hmn : min (k : Int) ((n : Int) - (k : Int)) = (M : Int) := by omega
  have g1 : decide ((k : Int) < 0) = false := decide_eq_false (by omega)
  have g2 : decide (n < k) = false := decide_eq_false (by omega)
  have g3 : decide ((n : Int) < (k : Int)) = false := decide_eq_false (by omega)
  go_enter Try.func19, Try.ntmps19
  go_wp2_with (go_at_call 32; refine (jbound_ok _ _ hn).mono ?_; rintro e w' ⟨rfl, rfl⟩)
  go_loopw [6, 25] (fun f i wr => ∃ j x : Nat, j ≤ M ∧ Hid (bin n j = x) ∧ i = .int .i64 (j : Int) ∧ f = .int .i64 (x : Int) ∧ Below w.heap.size w wr) (fun _ i _ => M - (intOf i).toNat)
  case atStart => exact ⟨0, 1, by omega, bin_zero n, rfl, rfl, Below.refl _ _⟩
  case round =>
    obtain ⟨j, x, hj, HX, rfl, rfl, hb⟩ := hrel
    have HB : Hid (Below w.heap.size w wr) := hb
    clear hb
    by_cases hlt : j < M
    · obtain ⟨y, HY⟩ : ∃ y, Hid (bin n (j + 1) = y) := ⟨_, rfl⟩
      have hjn : j ≤ n := by omega
      go_wp2_with (go_at_call 35; refine (jlarger_ok n j x y _ hn hjn HX HY).mono ?_; rintro e w1 ⟨rfl, hb1⟩; have HB1 : Hid (Below w.heap.size w w1) := jtwo HB.out hb1; clear hb1)
      exact ⟨⟨j + 1, y, by omega, HY, by go_num, rfl, HB1.out⟩, by simp [intOf]; omega⟩
    · have HR : Hid (x = bin n k) := by
        show _ = _
        rw [← HX.out]
        rcases (by omega : j = k ∨ j = n - k) with e | e
        · rw [e]
        · rw [e]; exact (bin_symm n k hk).symm
      clear HX
      go_wp2
      go_ret2
      exact ⟨by rw [← HR.out]; rfl, HB.out⟩
set_option maxHeartbeats 400000 in
theorem jupto_bad (n k : Int) (w : World) (hn : n < 0 ∨ 64 < n) :
    Calls Try.prog 21 #[.int .i64 n, .int .i64 k] w fun e w' => e = .returned (.tuple #[.int .i64 0, .int .i64 2]) ∧ w = w' := by
  go_enter Try.func21, Try.ntmps21
  go_wp2_with (go_at_call 32; refine (jbound_bad _ _ hn).mono ?_; rintro e w' ⟨rfl, rfl⟩)
  go_ret2
  exact ⟨rfl, rfl⟩
/-- What Choose tells: a number, or nothing of the kind. -/
def chs (n k : Int) : Nat := if 0 ≤ k then bin n.toNat k.toNat else 0
theorem chs_nat (n k : Nat) : chs n k = bin n k := if_pos (Int.natCast_nonneg k)
theorem jchoose_ok (n : Nat) (k : Int) (w : World) (hn : n ≤ 64) :
    Calls Try.prog 19 #[.int .i64 (n : Int), .int .i64 k] w fun e w' => e = .returned (.tuple #[.int .i64 ((chs n k : Nat) : Int), .int .i64 0]) ∧ Below w.heap.size w w' := by
  by_cases h : 0 ≤ k
  · obtain ⟨j, rfl⟩ := Int.eq_ofNat_of_zero_le h
    rw [chs_nat]
    by_cases h2 : j ≤ n
    · exact jchoose_in n j w hn h2
    · rw [bin_above n j (by omega)]
      exact (jchoose_out n j w hn (by omega)).mono (fun e w' h => ⟨h.1, h.2 ▸ Below.refl _ _⟩)
  · have e : chs n k = 0 := if_neg h
    rw [e]
    exact (jchoose_out n k w hn (by omega)).mono (fun e w' h => ⟨h.1, h.2 ▸ Below.refl _ _⟩)
/-- What Upto tells. -/
def upv (n : Nat) (t : Int) : Nat := upt6 n (min t n + 1).toNat
def upa (u : Nat) : Array Value := if u ≤ 4611686018427387904 then #[.int .i64 (u : Int), .int .i64 0] else #[.int .i64 0, .int .i64 4]
set_option maxHeartbeats 400000 in
theorem jupto_ok (n : Nat) (t : Int) (w : World) (hn : n ≤ 64) :
    Calls Try.prog 21 #[.int .i64 (n : Int), .int .i64 t] w fun e w' => e = .returned (.tuple (upa (upv n t))) ∧ Below w.heap.size w w' := by
  obtain ⟨u, HU⟩ : ∃ u, Hid (upv n t = u) := ⟨_, rfl⟩
  obtain ⟨m, HM⟩ : ∃ m, Hid ((min t n + 1).toNat = m) := ⟨_, rfl⟩
  have HU2 : Hid (upt6 n m = u) := by show _ = _; rw [← HM.out]; exact HU.out
  rw [HU.out]
  obtain ⟨mn, hmn⟩ : ∃ mn, min t (n : Int) = mn := ⟨_, rfl⟩
  have hm : ∀ j : Nat, (j : Int) ≤ mn ↔ j < m := by intro j; rw [← HM.out, ← hmn]; omega
  have hmn2 : m ≤ n + 1 := by rw [← HM.out]; omega
  go_enter Try.func21, Try.ntmps21
  go_wp2_with (go_at_call 32; refine (jbound_ok _ _ hn).mono ?_; rintro e w' ⟨rfl, rfl⟩)
  go_loopw [6, 7, 8] (fun v f i wr => ∃ j x z : Nat, j ≤ m ∧ Hid (bin n j = x) ∧ Hid (upt6 n j = z) ∧ z ≤ 4611686018427387904 ∧ i = .int .i64 (j : Int) ∧ f = .int .i64 (x : Int) ∧ v = .int .i64 (z : Int) ∧ Below w.heap.size w wr) (fun _ _ i _ => m - (intOf i).toNat)
  case atStart => exact ⟨0, 1, 0, by omega, bin_zero n, rfl, by omega, rfl, rfl, rfl, Below.refl _ _⟩
  case round =>
    obtain ⟨j, x, z, hj, HX, HZ, hz, rfl, rfl, rfl, hb⟩ := hrel
    have HB : Hid (Below w.heap.size w wr) := hb
    clear hb
    have hx : x ≤ 1832624140942590534 := by rw [← HX.out]; exact bin_small hn
    by_cases hlt : j < m
    · have c1 : decide ((j : Int) ≤ mn) = true := decide_eq_true ((hm j).2 hlt)
      obtain ⟨y, HY⟩ : ∃ y, Hid (bin n (j + 1) = y) := ⟨_, rfl⟩
      obtain ⟨z', hz'⟩ : ∃ z', z + x = z' := ⟨_, rfl⟩
      have HZ' : Hid (upt6 n (j + 1) = z') := by show upt6 n j + bin n j = _; rw [HX.out, HZ.out, hz']
      have e1 : (z : Int) + (x : Int) = (z' : Int) := by omega
      have hz2 : z' ≤ 9223372036854775807 := by omega
      have hjn : j ≤ n := by omega
      have HLE : Hid (z' ≤ u) := by show _ ≤ _; rw [← HZ'.out, ← HU2.out]; exact upt6_mono (by omega)
      clear hz' hx hz HU HU2 HM
      by_cases hbig : z' ≤ 4611686018427387904
      · have c2 : decide ((4611686018427387904 : Int) < (z' : Int)) = false := decide_eq_false (by omega)
        go_wp2_with (go_at_call 35; refine (jlarger_ok n j x y _ hn hjn HX HY).mono ?_; rintro e w1 ⟨rfl, hb1⟩; have HB1 : Hid (Below w.heap.size w w1) := jtwo HB.out hb1; clear hb1)
        exact ⟨⟨j + 1, y, z', by omega, HY, HZ', hbig, by go_num, rfl, rfl, HB1.out⟩, by simp [intOf]; omega⟩
      · have c2 : decide ((4611686018427387904 : Int) < (z' : Int)) = true := decide_eq_true (by omega)
        go_wp2
        go_ret2
        exact ⟨by rw [upa, if_neg (by have := HLE.out; omega)]; rfl, HB.out⟩
    · have c1 : decide ((j : Int) ≤ mn) = false := decide_eq_false (by rw [hm j]; exact hlt)
      obtain rfl : j = m := by omega
      have HR : Hid (z = u) := by show _ = _; rw [← HZ.out, ← HU2.out]
      clear HX HU2 HZ
      go_wp2
      go_ret2
      exact ⟨by rw [← HR.out, upa, if_pos hz]; rfl, HB.out⟩
end Go.Proofs.Ytpmhpakjlagfjaa
