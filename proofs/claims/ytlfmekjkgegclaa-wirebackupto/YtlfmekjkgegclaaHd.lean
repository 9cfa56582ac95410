/-
  Contracts of the wire's reference: ReadNum.
-/
import Derived.Test.YtlfmekjkgegclaaHc
namespace Go.Proofs.Ytlfmekjkgegclaa
open Go.RowKit
theorem v7_succ (f : Nat → Nat) (i : Nat) : v7 f (i + 1) = v7 f i + f i % 128 * 128 ^ i := rfl
theorem pow_7 (i : Nat) : (128 : Nat) ^ i = 2 ^ (7 * i) := by rw [Nat.pow_mul]
theorem i64_or_nat8 (a b : Nat) (ha : a < 9223372036854775808) (hb : b < 9223372036854775808) : bits .or .i64 (a : Int) (b : Int) = ((a ||| b : Nat) : Int) := by
  have hx : a ||| b < 2 ^ 63 := Nat.or_lt_two_pow (by omega) (by omega)
  show IntKind.i64.wrap ((BitVec.ofInt 64 (a : Int) ||| BitVec.ofInt 64 (b : Int)).toNat : Int) = _
  rw [BitVec.toNat_or, ofInt_i64 a ha, ofInt_i64 b hb, IntKind.wrap_i64]
  omega
/-- A further group of seven bits. -/
theorem grp_shift {m i : Nat} (hm : m < 128) (hi : i ≤ 8) : m * 2 ^ (7 * i) < 9223372036854775808 ∧ wrap64 ((m : Int) * 2 ^ (7 * i)) = ((m * 2 ^ (7 * i) : Nat) : Int) := by
  have h1 : 2 ^ (7 * i) ≤ 2 ^ 56 := Nat.pow_le_pow_right (by decide) (by omega)
  have h2 : m * 2 ^ (7 * i) ≤ 127 * 2 ^ 56 := Nat.mul_le_mul (by omega) h1
  have h3 : m * 2 ^ (7 * i) < 9223372036854775808 := by omega
  refine ⟨h3, ?_⟩
  have e : (m : Int) * 2 ^ (7 * i) = ((m * 2 ^ (7 * i) : Nat) : Int) := by simp
  rw [e, IntWalk.wrap64_in _ (by omega)]
theorem grp_or {z m i : Nat} (hz : z < 2 ^ (7 * i)) (hm : m < 128) (hi : i ≤ 8) : bits .or .i64 (z : Int) ((m * 2 ^ (7 * i) : Nat) : Int) = ((z + m * 2 ^ (7 * i) : Nat) : Int) := by
  have h1 : 2 ^ (7 * i) ≤ 2 ^ 56 := Nat.pow_le_pow_right (by decide) (by omega)
  rw [i64_or_nat8 z _ (by omega) (grp_shift hm hi).1, Nat.or_comm, Nat.mul_comm m, ← Nat.two_pow_add_eq_or_of_lt hz, Nat.add_comm]
set_option maxRecDepth 20000 in
set_option maxHeartbeats 1000000 in
theorem rread8_ok (w : World) (a : Option Addr) (n c v s E : Nat) (f : Nat → Nat) (ha : Sl w a n f) (hn : n ≤ 140737488351232) (h : RN f n v s E) :
    Calls Try.prog 15 #[.slice a n c] w fun e w' => e = .returned (.tuple #[.int .i64 (v : Int), .int .i64 (s : Int), .int .i64 (E : Int)]) ∧ w = w' := by
  have HA : Hid (Sl w a n f) := ha
  have HR : Hid (∀ v' s' E', RN f n v' s' E' → v' = v ∧ s' = s ∧ E' = E) := fun _ _ _ g => g.one h
  clear ha h
  go_enter Try.func15, Try.ntmps15
  go_wp2
  go_loop [5, 6] (fun vn vi => ∃ i z : Nat, i ≤ 8 ∧ i ≤ n ∧ vi = .int .i64 (i : Int) ∧ vn = .int .i64 (z : Int) ∧ Hid (v7 f i = z) ∧ Hid (∀ j, j < i → 128 ≤ f j)) (fun _ vi => 9 - (intOf vi).toNat)
  case atStart => exact ⟨0, 0, by omega, by omega, rfl, rfl, rfl, fun j hj => by omega⟩
  case round =>
    obtain ⟨i, z, hi, hin, rfl, rfl, HZ, HJ⟩ := hrel
    by_cases hlt : i < n
    · obtain ⟨b, o, ea, hc⟩ := HA.out.2 i hlt
      have h8 := HA.out.1 i hlt
      obtain ⟨y, HY⟩ : ∃ y, Hid (f i = y) := ⟨_, rfl⟩
      rw [HY.out] at hc h8
      subst ea
      have p0 : (0 : Int) ≤ (i : Int) := by omega
      have p1 : (i : Int) < (n : Int) := by omega
      by_cases hz : 0 < i ∧ y = 0
      · obtain ⟨hi0, rfl⟩ := hz
        obtain ⟨rfl, rfl, rfl⟩ := HR.out 0 0 8 (.inr (.inr ⟨rfl, rfl, rfl, i, hi, hlt, HJ.out, .inl ⟨hi0, HY.out⟩⟩))
        go_wp2
        go_ret3
        exact ⟨rfl, rfl⟩
      · by_cases h9 : i = 8 ∧ 128 ≤ y
        · obtain ⟨rfl, hy⟩ := h9
          obtain ⟨rfl, rfl, rfl⟩ := HR.out 0 0 8 (.inr (.inr ⟨rfl, rfl, rfl, 8, by omega, hlt, HJ.out, .inr ⟨rfl, by rw [HY.out]; exact hy⟩⟩))
          have hy0 : ((y : Int) == 0) = false := by simp; omega
          go_wp2
          go_ret3
          exact ⟨rfl, rfl⟩
        · have hp := v7_lt f i
          rw [HZ.out, pow_7] at hp
          obtain ⟨m, HM⟩ : ∃ m, Hid (y % 128 = m) := ⟨_, rfl⟩
          have hm : m < 128 := by have := HM.out; omega
          have em : (y : Int) % 128 = (m : Int) := by have := HM.out; omega
          obtain ⟨q, HQ⟩ : ∃ q, Hid (m * 2 ^ (7 * i) = q) := ⟨_, rfl⟩
          obtain ⟨u, HU⟩ : ∃ u, Hid (z + q = u) := ⟨_, rfl⟩
          have hsh : wrap64 ((m : Int) * 2 ^ (7 * i)) = (q : Int) := by rw [← HQ.out]; exact (grp_shift hm hi).2
          have hor : bits .or .i64 (z : Int) (q : Int) = (u : Int) := by rw [← HU.out, ← HQ.out]; exact grp_or hp hm hi
          have HV : Hid (v7 f (i + 1) = u) := by show _ = _; rw [v7_succ, HZ.out, HY.out, HM.out, pow_7, HQ.out]; exact HU.out
          have HOk : Hid (y < 128 → u = v ∧ i + 1 = s ∧ 0 = E) := fun hy => by
            have := rn_end hi hlt HJ.out (by rw [HY.out]; exact hz) (by rw [HY.out]; exact hy)
            rw [HV.out] at this
            exact HR.out _ _ 0 (.inl ⟨rfl, this⟩)
          have HJ2 : Hid (128 ≤ y → ∀ j, j < i + 1 → 128 ≤ f j) := fun hy j hj => by
            by_cases e : j = i
            · rw [e, HY.out]; exact hy
            · exact HJ.out j (by omega)
          clear hp HM HQ HU
          by_cases hi0 : i = 0
          · subst hi0
            have hq0 : (q : Int) = (m : Int) := by rw [← hsh]; simp; exact IntWalk.wrap64_in _ (by omega)
            rw [hq0] at hor
            rw [Nat.add_zero] at hc
            by_cases hy : y < 128
            · obtain ⟨rfl, rfl, rfl⟩ := HOk.out hy
              go_wp2
              go_ret3
              exact ⟨rfl, rfl⟩
            · go_wp2
              exact ⟨⟨1, u, by omega, by omega, by go_num, by go_num, HV, HJ2.out (by omega)⟩, by simp [intOf]⟩
          · have hyz : y ≠ 0 := fun e => hz ⟨by omega, e⟩
            have hy0 : ((y : Int) == 0) = false := by simp; omega
            by_cases hi8 : i = 8
            · subst hi8
              have hy : y < 128 := Classical.byContradiction fun h => h9 ⟨rfl, by omega⟩
              have hq8 : (q : Int) = (m : Int) * 72057594037927936 := by rw [← hsh]; exact IntWalk.wrap64_in _ (by omega)
              rw [hq8] at hor
              obtain ⟨rfl, rfl, rfl⟩ := HOk.out hy
              go_wp2
              go_ret3
              exact ⟨rfl, rfl⟩
            · have h80 : ((i : Int) == 8) = false := by simp; omega
              by_cases hy : y < 128
              · obtain ⟨rfl, rfl, rfl⟩ := HOk.out hy
                go_wp2
                go_ret3
                exact ⟨rfl, rfl⟩
              · go_wp2
                exact ⟨⟨i + 1, u, by omega, by omega, by go_num, by go_num, HV, HJ2.out (by omega)⟩, by simp [intOf]; omega⟩
    · obtain rfl : i = n := by omega
      obtain ⟨rfl, rfl, rfl⟩ := HR.out 0 0 7 (.inr (.inl ⟨rfl, rfl, rfl, by omega, HJ.out⟩))
      go_wp2
      go_ret3
      exact ⟨rfl, rfl⟩
end Go.Proofs.Ytlfmekjkgegclaa
