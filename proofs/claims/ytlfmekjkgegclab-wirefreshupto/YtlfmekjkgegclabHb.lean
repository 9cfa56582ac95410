/-
  Contracts of the wire's reference: Sum.
-/
import Derived.Test.YtlfmekjkgegclabHa
import Derived.Test.YtlfmekjkgegclabLa
namespace Go.Proofs.Ytlfmekjkgegclab
open Go.RowKit
theorem cr_succ (f : Nat → Nat) (n : Nat) : cr f (n + 1) = sbn 8 (cr f n ^^^ f n) := rfl
theorem and_one8 {z : Nat} (h : z < 4294967296) : bits .and .u32 (z : Int) 1 = ((z % 2 : Nat) : Int) := by
  have := u32_and_nat z 1 h (by decide)
  rw [Nat.and_one_is_mod] at this
  exact this
set_option maxRecDepth 20000 in
set_option maxHeartbeats 1000000 in
theorem rsum8_ok (w : World) (a : Option Addr) (n c : Nat) (f : Nat → Nat) (ha : Sl w a n f) (hn : n ≤ 140737488351232) :
    Calls Try.prog 31 #[.slice a n c] w fun e w' => e = .returned (.int .u32 ((cs f n : Nat) : Int)) ∧ w = w' := by
  have HA : Hid (Sl w a n f) := ha
  clear ha
  go_enter Try.func31, Try.ntmps31
  go_wp2
  go_loop [3, 4, 5, 6] (fun vr vi _ _ => ∃ i z : Nat, i ≤ n ∧ vi = .int .i64 (i : Int) ∧ vr = .int .u32 (z : Int) ∧ Hid (cr f i = z)) (fun _ vi _ _ => n - (intOf vi).toNat)
  case atStart => exact ⟨0, 4294967295, by omega, rfl, rfl, rfl⟩
  case round =>
    obtain ⟨i, z, hi, rfl, rfl, HZ⟩ := hrel
    have hz : z < 4294967296 := by rw [← HZ.out]; exact cr_lt i (fun j hj => HA.out.1 j (by omega))
    by_cases hlt : i < n
    · obtain ⟨b, o, ea, hc⟩ := HA.out.2 i hlt
      have h8 := HA.out.1 i hlt
      obtain ⟨y, HY⟩ : ∃ y, Hid (f i = y) := ⟨_, rfl⟩
      rw [HY.out] at hc h8
      subst ea
      obtain ⟨x, HX⟩ : ∃ x, Hid (z ^^^ y = x) := ⟨_, rfl⟩
      have hxor : bits .xor .u32 (z : Int) (y : Int) = (x : Int) := by rw [← HX.out]; exact u32_xor_nat z y hz (by omega)
      have hx : x < 4294967296 := by rw [← HX.out]; exact xor_lt32 hz (by omega)
      have p0 : (0 : Int) ≤ (i : Int) := by omega
      have p1 : (i : Int) < (n : Int) := by omega
      go_wp2
      go_loop [3, 5, 6] (fun vr vk _ => ∃ k q : Nat, k ≤ 8 ∧ vk = .int .i64 (k : Int) ∧ vr = .int .u32 (q : Int) ∧ Hid (sbn k x = q)) (fun _ vk _ => 8 - (intOf vk).toNat)
      case atStart => exact ⟨0, x, by omega, rfl, rfl, rfl⟩
      case round =>
        obtain ⟨k, q, hk, rfl, rfl, HQ⟩ := hrel
        have hq : q < 4294967296 := by rw [← HQ.out]; exact sbn_lt hx k
        by_cases hk8 : k < 8
        · have hand := and_one8 hq
          obtain ⟨hf2, H2⟩ : ∃ v, Hid (q / 2 = v) := ⟨_, rfl⟩
          have hsh : (q : Int) / 2 = (hf2 : Int) := by have := H2.out; omega
          have hh2 : hf2 < 4294967296 := by have := H2.out; omega
          by_cases hodd : q % 2 = 1
          · rw [hodd] at hand
            obtain ⟨v, HV⟩ : ∃ v, Hid (hf2 ^^^ 3988292384 = v) := ⟨_, rfl⟩
            have hx2 : bits .xor .u32 (hf2 : Int) 3988292384 = (v : Int) := by rw [← HV.out]; exact u32_xor_nat hf2 3988292384 hh2 (by decide)
            have HN : Hid (sbn (k + 1) x = v) := by
              show sb (sbn k x) = v
              rw [HQ.out]
              unfold sb
              rw [if_pos hodd, H2.out]
              exact HV.out
            go_wp2
            exact ⟨⟨k + 1, v, by omega, by go_num, by go_num, HN⟩, by simp [intOf]; omega⟩
          · have h0 : q % 2 = 0 := by omega
            rw [h0] at hand
            have HN : Hid (sbn (k + 1) x = hf2) := by
              show sb (sbn k x) = hf2
              rw [HQ.out]
              unfold sb
              rw [if_neg hodd]
              exact H2.out
            go_wp2
            exact ⟨⟨k + 1, hf2, by omega, by go_num, by go_num, HN⟩, by simp [intOf]; omega⟩
        · obtain rfl : k = 8 := by omega
          have HN : Hid (cr f (i + 1) = q) := by
            show _ = _
            rw [cr_succ, HZ.out, HY.out, HX.out]
            exact HQ.out
          go_wp2
          exact ⟨⟨i + 1, q, by omega, by go_num, by go_num, HN⟩, by simp [intOf]; omega⟩
    · obtain rfl : i = n := by omega
      obtain ⟨v, HV⟩ : ∃ v, Hid (cs f i = v) := ⟨_, rfl⟩
      have hnot : bits .xor .u32 IntKind.u32.max (z : Int) = (v : Int) := by
        rw [← HV.out]
        unfold cs
        rw [HZ.out, not_xor hz]
        exact u32_xor_nat 4294967295 z (by decide) hz
      go_wp2
      go_ret
      refine ⟨?_, rfl⟩
      rw [HV.out]
      rfl
end Go.Proofs.Ytlfmekjkgegclab
