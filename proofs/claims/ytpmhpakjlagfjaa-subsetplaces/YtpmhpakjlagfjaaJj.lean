/-
  Contracts of the sets' reference: Choose, Upto.
-/
import Derived.Test.YtpmhpakjlagfjaaJi
namespace Go.Proofs.Ytpmhpakjlagfjaa
open Go.RowKit
set_option maxHeartbeats 400000 in
theorem rchoose6_in (n k : Nat) (w : World) (hn : n ≤ 64) (hk : k ≤ n) :
    Calls Try.prog 20 #[.int .i64 (n : Int), .int .i64 (k : Int)] w fun e w' => e = .returned (.tuple #[.int .i64 ((bin n k : Nat) : Int), .int .i64 0]) ∧ Below w.heap.size w w' := by
  have g1 : decide ((n : Int) < 0) = false := decide_eq_false (by omega)
  have g2 : decide ((64 : Int) < (n : Int)) = false := decide_eq_false (by omega)
  have g3 : decide ((k : Int) < 0) = false := decide_eq_false (by omega)
  have g4 : decide (n < k) = false := decide_eq_false (by omega)
  obtain ⟨R, HR⟩ : ∃ R, Hid (bin n k = R) := ⟨_, rfl⟩
  rw [HR.out]
  have p1 : (k : Int) < 66 := by omega
  go_enter Try.func20, Try.ntmps20
  go_wp2_with (go_at_call 36; refine (rpascal_ok n _ hn).mono ?_; rintro e w1 ⟨rfl, hg, hb⟩; have HB1 : Hid (Below w.heap.size w w1) := hb; have hc := hg.cell k (by omega); rw [HR.out] at hc; clear hb hg)
  go_ret2
  exact ⟨rfl, HB1.out⟩
set_option maxHeartbeats 400000 in
theorem rchoose6_bad (n k : Int) (w : World) (h : n < 0 ∨ 64 < n) :
    Calls Try.prog 20 #[.int .i64 n, .int .i64 k] w fun e w' => e = .returned (.tuple #[.int .i64 0, .int .i64 2]) ∧ w = w' := by
  by_cases h0 : n < 0
  · go_enter Try.func20, Try.ntmps20
    go_wp2
    go_ret2
    exact ⟨rfl, rfl⟩
  · have h1 : 64 < n := by omega
    have h2 : 0 ≤ n := by omega
    clear h h0
    go_enter Try.func20, Try.ntmps20
    go_wp2
    go_ret2
    exact ⟨rfl, rfl⟩
set_option maxHeartbeats 400000 in
theorem rchoose6_out (n : Nat) (k : Int) (w : World) (hn : n ≤ 64) (hk : k < 0 ∨ n < k) :
    Calls Try.prog 20 #[.int .i64 (n : Int), .int .i64 k] w fun e w' => e = .returned (.tuple #[.int .i64 0, .int .i64 0]) ∧ w = w' := by
  have g1 : decide ((n : Int) < 0) = false := decide_eq_false (by omega)
  have g2 : decide ((64 : Int) < (n : Int)) = false := decide_eq_false (by omega)
  by_cases h : k < 0
  · go_enter Try.func20, Try.ntmps20
    go_wp2
    go_ret2
    exact ⟨rfl, rfl⟩
  · have h1 : (n : Int) < k := by omega
    have h2 : 0 ≤ k := by omega
    clear h hk
    go_enter Try.func20, Try.ntmps20
    go_wp2
    go_ret2
    exact ⟨rfl, rfl⟩
theorem rchoose6_ok (n : Nat) (k : Int) (w : World) (hn : n ≤ 64) :
    Calls Try.prog 20 #[.int .i64 (n : Int), .int .i64 k] w fun e w' => e = .returned (.tuple #[.int .i64 ((chs n k : Nat) : Int), .int .i64 0]) ∧ Below w.heap.size w w' := by
  by_cases h : 0 ≤ k
  · obtain ⟨j, rfl⟩ := Int.eq_ofNat_of_zero_le h
    rw [chs_nat]
    by_cases h2 : j ≤ n
    · exact rchoose6_in n j w hn h2
    · rw [bin_above n j (by omega)]
      exact (rchoose6_out n j w hn (by omega)).mono (fun e w' h => ⟨h.1, h.2 ▸ Below.refl _ _⟩)
  · have e : chs n k = 0 := if_neg h
    rw [e]
    exact (rchoose6_out n k w hn (by omega)).mono (fun e w' h => ⟨h.1, h.2 ▸ Below.refl _ _⟩)
set_option maxHeartbeats 400000 in
theorem rupto_bad (n k : Int) (w : World) (h : n < 0 ∨ 64 < n) :
    Calls Try.prog 22 #[.int .i64 n, .int .i64 k] w fun e w' => e = .returned (.tuple #[.int .i64 0, .int .i64 2]) ∧ w = w' := by
  by_cases h0 : n < 0
  · go_enter Try.func22, Try.ntmps22
    go_wp2
    go_ret2
    exact ⟨rfl, rfl⟩
  · have h1 : 64 < n := by omega
    have h2 : 0 ≤ n := by omega
    clear h h0
    go_enter Try.func22, Try.ntmps22
    go_wp2
    go_ret2
    exact ⟨rfl, rfl⟩
set_option maxHeartbeats 400000 in
theorem rupto_ok (n : Nat) (t : Int) (w : World) (hn : n ≤ 64) :
    Calls Try.prog 22 #[.int .i64 (n : Int), .int .i64 t] w fun e w' => e = .returned (.tuple (upa (upv n t))) ∧ Below w.heap.size w w' := by
  have g1 : decide ((n : Int) < 0) = false := decide_eq_false (by omega)
  have g2 : decide ((64 : Int) < (n : Int)) = false := decide_eq_false (by omega)
  obtain ⟨u, HU⟩ : ∃ u, Hid (upv n t = u) := ⟨_, rfl⟩
  obtain ⟨m, HM⟩ : ∃ m, Hid ((min t n + 1).toNat = m) := ⟨_, rfl⟩
  have HU2 : Hid (upt6 n m = u) := by show _ = _; rw [← HM.out]; exact HU.out
  rw [HU.out]
  obtain ⟨mn, hmn⟩ : ∃ mn, min t (n : Int) = mn := ⟨_, rfl⟩
  have hm : ∀ j : Nat, (j : Int) ≤ mn ↔ j < m := by intro j; rw [← HM.out, ← hmn]; omega
  have hmn2 : m ≤ n + 1 := by rw [← HM.out]; omega
  go_enter Try.func22, Try.ntmps22
  go_wp2
  go_loopw [6, 7] (fun v i wr => ∃ j z : Nat, j ≤ m ∧ Hid (upt6 n j = z) ∧ z ≤ 4611686018427387904 ∧ i = .int .i64 (j : Int) ∧ v = .int .i64 (z : Int) ∧ Below w.heap.size w wr) (fun _ i _ => m - (intOf i).toNat)
  case atStart => exact ⟨0, 0, by omega, rfl, by omega, rfl, rfl, Below.refl _ _⟩
  case round =>
    obtain ⟨j, z, hj, HZ, hz, rfl, rfl, hb⟩ := hrel
    have HB : Hid (Below w.heap.size w wr) := hb
    clear hb
    by_cases hlt : j < m
    · have c1 : decide ((j : Int) ≤ mn) = true := decide_eq_true ((hm j).2 hlt)
      obtain ⟨x, HX⟩ : ∃ x, Hid (bin n j = x) := ⟨_, rfl⟩
      have hx : x ≤ 1832624140942590534 := by rw [← HX.out]; exact bin_small hn
      obtain ⟨z', hz'⟩ : ∃ z', z + x = z' := ⟨_, rfl⟩
      have HZ' : Hid (upt6 n (j + 1) = z') := by show upt6 n j + bin n j = _; rw [HX.out, HZ.out, hz']
      obtain ⟨r, hr⟩ : ∃ r : Nat, 4611686018427387904 - z = r := ⟨_, rfl⟩
      have e0 : (4611686018427387904 : Int) - (z : Int) = (r : Int) := by omega
      have e1 : (z : Int) + (x : Int) = (z' : Int) := by omega
      have hz2 : z' ≤ 9223372036854775807 := by omega
      have hr2 : r ≤ 4611686018427387904 := by omega
      have hjn : j ≤ n := by omega
      have HLE : Hid (z' ≤ u) := by show _ ≤ _; rw [← HZ'.out, ← HU2.out]; exact upt6_mono (by omega)
      have HCh : Hid (∀ w : World, Calls Try.prog 20 #[.int .i64 (n : Int), .int .i64 (j : Int)] w fun e w' => e = .returned (.tuple #[.int .i64 (x : Int), .int .i64 0]) ∧ Below w.heap.size w w') := fun w => by
        rw [← HX.out]; exact rchoose6_in n j w hn hjn
      clear HU HU2 HM HX HZ
      by_cases hbig : z' ≤ 4611686018427387904
      · have c2 : decide ((r : Int) < (x : Int)) = false := decide_eq_false (by omega)
        have c3 : decide (r < x) = false := decide_eq_false (by omega)
        clear hz' hr
        go_wp2_with (go_at_call 20; refine (HCh.out _).mono ?_; rintro e w1 ⟨rfl, hb1⟩; have HB1 : Hid (Below w.heap.size w w1) := jtwo HB.out hb1; clear hb1)
        exact ⟨⟨j + 1, z', by omega, HZ', hbig, by go_num, by go_num, HB1.out⟩, by simp [intOf]; omega⟩
      · have c2 : decide ((r : Int) < (x : Int)) = true := decide_eq_true (by omega)
        have c3 : decide (r < x) = true := decide_eq_true (by omega)
        clear hz' hr
        go_wp2_with (go_at_call 20; refine (HCh.out _).mono ?_; rintro e w1 ⟨rfl, hb1⟩; have HB1 : Hid (Below w.heap.size w w1) := jtwo HB.out hb1; clear hb1)
        go_ret2
        exact ⟨by rw [upa, if_neg (by have := HLE.out; omega)]; rfl, HB1.out⟩
    · have c1 : decide ((j : Int) ≤ mn) = false := decide_eq_false (by rw [hm j]; exact hlt)
      obtain rfl : j = m := by omega
      have HR : Hid (z = u) := by show _ = _; rw [← HZ.out, ← HU2.out]
      clear HU2 HZ
      go_wp2
      go_ret2
      exact ⟨by rw [← HR.out, upa, if_pos hz]; rfl, HB.out⟩
end Go.Proofs.Ytpmhpakjlagfjaa
