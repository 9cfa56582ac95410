/-
  Contracts of Of, List and the reference's; two lists alike.
-/
import Derived.Test.YtpmhpakjlagfjaaJj
namespace Go.Proofs.Ytpmhpakjlagfjaa
open Go.RowKit
/-- All are numbers that a set may have. -/
def okq (q : Nat → Int) (m : Nat) : Prop := ∀ i, i < m → 0 ≤ q i ∧ q i < 64
/-- The same, by looking at each. -/
def okb (q : Nat → Int) : Nat → Bool
  | 0 => true
  | m + 1 => okb q m && (decide (0 ≤ q m) && decide (q m < 64))
theorem okb_iff (q : Nat → Int) : ∀ m, okb q m = true ↔ okq q m := by
  intro m
  induction m with
  | zero => exact ⟨fun _ i hi => by omega, fun _ => rfl⟩
  | succ m ih =>
    constructor
    · intro h i hi
      have h1 : okb q m = true ∧ (0 ≤ q m ∧ q m < 64) := by simpa [okb] using h
      by_cases e : i = m
      · rw [e]; exact h1.2
      · exact ih.1 h1.1 i (by omega)
    · intro h
      have h1 : okb q m = true := ih.2 (fun i hi => h i (by omega))
      have h2 := h m (by omega)
      simp [okb, h1, h2.1, h2.2]
/-- What Of answers. -/
def ofa (q : Nat → Int) (m : Nat) : Array Value := if okb q m = true then #[.int .u64 ((ofs (fun i => (q i).toNat) m : Nat) : Int), .int .i64 0] else #[.int .u64 0, .int .i64 2]
theorem ofa_yes {q : Nat → Int} {m : Nat} (h : okq q m) : ofa q m = #[.int .u64 ((ofs (fun i => (q i).toNat) m : Nat) : Int), .int .i64 0] := if_pos ((okb_iff q m).2 h)
theorem ofa_no {q : Nat → Int} {m j : Nat} (hj : j < m) (h : ¬ (0 ≤ q j ∧ q j < 64)) : ofa q m = #[.int .u64 0, .int .i64 2] := if_neg (fun o => h ((okb_iff q m).1 o j hj))
theorem okq_step {q : Nat → Int} {j : Nat} (h : okq q j) (hj : 0 ≤ q j ∧ q j < 64) : okq q (j + 1) := fun i hi => by
  by_cases e : i = j
  · rw [e]; exact hj
  · exact h i (by omega)
theorem ofs_64 {q : Nat → Int} {m : Nat} (h : okq q m) : ofs (fun i => (q i).toNat) m < 18446744073709551616 := ofs_lt (n := 64) (fun i hi => by have := h i hi; show (q i).toNat < 64; omega)
set_option maxHeartbeats 400000 in
theorem jof_any (w : World) (m cap : Nat) (a : Option Addr) (q : Nat → Int) (hm : m ≤ 9223372036854775807) (ha : Jl w a .i64 m q) :
    Calls Try.prog 9 #[.slice a m cap] w fun e w' => e = .returned (.tuple (ofa q m)) ∧ w = w' := by
  have HA : Hid (Jl w a .i64 m q) := ha
  clear ha
  go_enter Try.func9, Try.ntmps9
  go_wp2
  go_loop [4, 9] (fun vz vi => ∃ j z : Nat, j ≤ m ∧ Hid (okq q j) ∧ Hid (ofs (fun i => (q i).toNat) j = z) ∧ vi = .int .i64 (j : Int) ∧ vz = .int .u64 (z : Int)) (fun _ vi => m - (intOf vi).toNat)
  case atStart => exact ⟨0, 0, by omega, fun i hi => by omega, rfl, rfl, rfl⟩
  case round =>
    obtain ⟨j, z, hj, HK, HZ, rfl, rfl⟩ := hrel
    by_cases hlt : j < m
    · obtain ⟨x, o, ea, hc⟩ := HA.out j hlt
      subst ea
      obtain ⟨y, HY⟩ : ∃ y, Hid (q j = y) := ⟨_, rfl⟩
      rw [HY.out] at hc
      have p0 : (0 : Int) ≤ (j : Int) := by omega
      have p1 : (j : Int) < (m : Int) := by omega
      have d1 : decide (j < m) = true := decide_eq_true hlt
      by_cases h0 : y < 0
      · have HR : Hid (ofa q m = #[.int .u64 0, .int .i64 2]) := ofa_no hlt (by rw [HY.out]; omega)
        have c1 : decide (y < 0) = true := decide_eq_true h0
        clear HK HZ HY HA
        go_wp2
        go_ret2
        exact ⟨by rw [HR.out]; rfl, rfl⟩
      · have c1 : decide (y < 0) = false := decide_eq_false h0
        by_cases h6 : y < 64
        · obtain ⟨t, rfl⟩ := Int.eq_ofNat_of_zero_le (show 0 ≤ y by omega)
          have ht : t < 64 := by omega
          have HK2 : Hid (okq q (j + 1)) := okq_step HK.out (by rw [HY.out]; omega)
          obtain ⟨T, hT⟩ : ∃ T, 2 ^ t = T := ⟨_, rfl⟩
          obtain ⟨z', HZ'⟩ : ∃ z' : Nat, Hid (ofs (fun i => (q i).toNat) (j + 1) = z') := ⟨_, rfl⟩
          have hp2 : IntKind.u64.wrap (2 ^ t) = (T : Int) := by rw [← hT]; exact j_pow t ht
          have hT6 := j_pow_lt ht
          have hor : bits .or .u64 (z : Int) (T : Int) = (z' : Int) := by
            rw [u64_or_nat z T (by rw [← HZ.out]; exact ofs_64 HK.out) (by omega), ← hT, ← HZ.out, ← HZ'.out]
            show _ = ((ofs (fun i => (q i).toNat) j ||| 2 ^ (q j).toNat : Nat) : Int)
            rw [HY.out]
            rfl
          have c2 : decide ((64 : Int) ≤ (t : Int)) = false := decide_eq_false (by omega)
          have c3 : decide ((63 : Int) < (t : Int)) = false := decide_eq_false (by omega)
          clear hT hT6 HK HZ HY HA
          go_wp2
          exact ⟨⟨j + 1, z', by omega, HK2, HZ', by go_num, rfl⟩, by simp [intOf]; omega⟩
        · have HR : Hid (ofa q m = #[.int .u64 0, .int .i64 2]) := ofa_no hlt (by rw [HY.out]; omega)
          have c2 : decide ((64 : Int) ≤ y) = true := decide_eq_true (by omega)
          have c3 : decide ((63 : Int) < y) = true := decide_eq_true (by omega)
          clear HK HZ HY HA
          go_wp2
          go_ret2
          exact ⟨by rw [HR.out]; rfl, rfl⟩
    · obtain rfl : j = m := by omega
      have HR : Hid (ofa q j = #[.int .u64 (z : Int), .int .i64 0]) := by show _ = _; rw [ofa_yes HK.out, HZ.out]
      clear HK HZ HA
      go_wp2
      go_ret2
      exact ⟨by rw [HR.out]; rfl, rfl⟩
set_option maxHeartbeats 400000 in
theorem rof_any (w : World) (m cap : Nat) (a : Option Addr) (q : Nat → Int) (hm : m ≤ 9223372036854775807) (ha : Jl w a .i64 m q) :
    Calls Try.prog 10 #[.slice a m cap] w fun e w' => e = .returned (.tuple (ofa q m)) ∧ w = w' := by
  have HA : Hid (Jl w a .i64 m q) := ha
  clear ha
  go_enter Try.func10, Try.ntmps10
  go_wp2
  go_loop [4, 5] (fun vz vi => ∃ j z : Nat, j ≤ m ∧ Hid (okq q j) ∧ Hid (ofs (fun i => (q i).toNat) j = z) ∧ vi = .int .i64 (j : Int) ∧ vz = .int .u64 (z : Int)) (fun _ vi => m - (intOf vi).toNat)
  case atStart => exact ⟨0, 0, by omega, fun i hi => by omega, rfl, rfl, rfl⟩
  case round =>
    obtain ⟨j, z, hj, HK, HZ, rfl, rfl⟩ := hrel
    by_cases hlt : j < m
    · obtain ⟨x, o, ea, hc⟩ := HA.out j hlt
      subst ea
      obtain ⟨y, HY⟩ : ∃ y, Hid (q j = y) := ⟨_, rfl⟩
      rw [HY.out] at hc
      have p0 : (0 : Int) ≤ (j : Int) := by omega
      have p1 : (j : Int) < (m : Int) := by omega
      have d1 : decide (j < m) = true := decide_eq_true hlt
      by_cases h0 : y < 0
      · have HR : Hid (ofa q m = #[.int .u64 0, .int .i64 2]) := ofa_no hlt (by rw [HY.out]; omega)
        have c1 : decide (y < 0) = true := decide_eq_true h0
        clear HK HZ HY HA
        go_wp2
        go_ret2
        exact ⟨by rw [HR.out]; rfl, rfl⟩
      · have c1 : decide (y < 0) = false := decide_eq_false h0
        by_cases h6 : y < 64
        · obtain ⟨t, rfl⟩ := Int.eq_ofNat_of_zero_le (show 0 ≤ y by omega)
          have ht : t < 64 := by omega
          have HK2 : Hid (okq q (j + 1)) := okq_step HK.out (by rw [HY.out]; omega)
          obtain ⟨T, hT⟩ : ∃ T, 2 ^ t = T := ⟨_, rfl⟩
          obtain ⟨z', HZ'⟩ : ∃ z' : Nat, Hid (ofs (fun i => (q i).toNat) (j + 1) = z') := ⟨_, rfl⟩
          have hp2 : IntKind.u64.wrap (2 ^ t) = (T : Int) := by rw [← hT]; exact j_pow t ht
          have hT6 := j_pow_lt ht
          have hor : bits .or .u64 (z : Int) (T : Int) = (z' : Int) := by
            rw [u64_or_nat z T (by rw [← HZ.out]; exact ofs_64 HK.out) (by omega), ← hT, ← HZ.out, ← HZ'.out]
            show _ = ((ofs (fun i => (q i).toNat) j ||| 2 ^ (q j).toNat : Nat) : Int)
            rw [HY.out]
            rfl
          have c2 : decide ((64 : Int) ≤ (t : Int)) = false := decide_eq_false (by omega)
          have c3 : decide ((63 : Int) < (t : Int)) = false := decide_eq_false (by omega)
          clear hT hT6 HK HZ HY HA
          go_wp2
          exact ⟨⟨j + 1, z', by omega, HK2, HZ', by go_num, rfl⟩, by simp [intOf]; omega⟩
        · have HR : Hid (ofa q m = #[.int .u64 0, .int .i64 2]) := ofa_no hlt (by rw [HY.out]; omega)
          have c2 : decide ((64 : Int) ≤ y) = true := decide_eq_true (by omega)
          have c3 : decide ((63 : Int) < y) = true := decide_eq_true (by omega)
          clear HK HZ HY HA
          go_wp2
          go_ret2
          exact ⟨by rw [HR.out]; rfl, rfl⟩
    · obtain rfl : j = m := by omega
      have HR : Hid (ofa q j = #[.int .u64 (z : Int), .int .i64 0]) := by show _ = _; rw [ofa_yes HK.out, HZ.out]
      clear HK HZ HA
      go_wp2
      go_ret2
      exact ⟨by rw [HR.out]; rfl, rfl⟩
end Go.Proofs.Ytpmhpakjlagfjaa
