/-
  Contract of Next.
-/
import Derived.Test.YtpmhpakjlagfjaaJf
import Derived.WalkMore
import Derived.ScopeJumps
namespace Go.Proofs.Ytpmhpakjlagfjaa
open Go.RowKit
/-- What Next answers. -/
def nxa : Option Nat → Array Value
  | none => #[.int .u64 0, .bool false]
  | some u => #[.int .u64 (u : Int), .bool true]
/-- Next, halfway: down to the number i nothing rises; c numbers are met. -/
def NxI (s n i c : Nat) : Prop := cn (s / 2 ^ i) (n - i) = c ∧ nx (s / 2 ^ i) (n - i) = none
theorem NxI.start (s n : Nat) : NxI s n n 0 := by
  unfold NxI
  rw [Nat.sub_self]
  exact ⟨rfl, rfl⟩
theorem NxI.skip {s n i c : Nat} (I : NxI s n (i + 1) c) (hi : i < n) (h : bt s i = 0) : NxI s n i c := by
  obtain ⟨a, b⟩ := I
  obtain ⟨l, hl⟩ : ∃ l, l = n - (i + 1) := ⟨_, rfl⟩
  rw [← hl] at a b
  have e : n - i = l + 1 := by omega
  unfold NxI
  rw [e]
  exact ⟨by rw [cn_even (show s / 2 ^ i % 2 = 0 from h), div_up]; exact a, nx_skip b h⟩
theorem NxI.stay {s n i c : Nat} (I : NxI s n (i + 1) c) (hi : i < n) (h : bt s i = 1) (hc : ¬ i + (c + 1) < n) : NxI s n i (c + 1) := by
  obtain ⟨a, b⟩ := I
  obtain ⟨l, hl⟩ : ∃ l, l = n - (i + 1) := ⟨_, rfl⟩
  rw [← hl] at a b
  have e : n - i = l + 1 := by omega
  unfold NxI
  rw [e]
  exact ⟨by rw [cn_odd (show s / 2 ^ i % 2 = 1 from h), div_up, a], nx_stay b (by omega)⟩
theorem NxI.rise {s n i c : Nat} (I : NxI s n (i + 1) c) (hi : i < n) (h : bt s i = 1) (hc : i + (c + 1) < n) : nx s n = some (s % 2 ^ i + (2 ^ (c + 1) - 1) * 2 ^ (i + 1)) := by
  obtain ⟨a, b⟩ := I
  obtain ⟨l, hl⟩ : ∃ l, l = n - (i + 1) := ⟨_, rfl⟩
  rw [← hl] at a b
  have := nx_go b h a (by omega)
  rwa [show i + (l + 1) = n by omega] at this
theorem shl_lt {i c n : Nat} (h : i + (c + 1) < n) (hn : n ≤ 64) : (2 ^ (c + 1) - 1) * 2 ^ (i + 1) < 18446744073709551616 := by
  have h1 := Nat.two_pow_pos (c + 1)
  have h2 : (2 ^ (c + 1) - 1) * 2 ^ (i + 1) < 2 ^ (c + 1) * 2 ^ (i + 1) := Nat.mul_lt_mul_of_pos_right (by omega) (Nat.two_pow_pos _)
  rw [← Nat.pow_add] at h2
  exact Nat.lt_of_lt_of_le h2 (pow_le_64 (by omega))
theorem jjump_ret {l : Nat} {J : Act → World → Prop} {Q : Exit → Act → World → Prop} {a : Act} {w : World} : Exit.jump l J Q Exit.ret a w = Q Exit.ret a w := rfl
set_option maxHeartbeats 400000 in
theorem jnext_ok (n s : Nat) (w : World) (hn : n ≤ 64) (hs : s < 2 ^ n) :
    Calls Try.prog 23 #[.int .i64 (n : Int), .int .u64 (s : Int)] w fun e w' => e = .returned (.tuple (nxa (nx s n))) ∧ Below w.heap.size w w' := by
  have hd : decide (s < 2 ^ n) = true := decide_eq_true hs
  have hs6 := lt_64 hn hs
  have HST : Hid (NxI s n n 0) := NxI.start s n
  obtain ⟨o, HO⟩ : ∃ o, Hid (nx s n = o) := ⟨_, rfl⟩
  rw [HO.out]
  clear hs
  go_enter Try.func23, Try.ntmps23
  go_wp2
  refine wp_scope_jumps 0 (fun a' w' => w' = w ∧ ∃ (i c' : Nat) (u8 u9 u10 u11 u12 u13 u14 u15 u16 u17 u18 u19 u20 u21 u22 u23 u24 u25 u26 u27 : Value), a' = { tmps := #[.int .i64 (n : Int), .int .u64 (s : Int), undef, undef, .int .u64 0, .bool false, .int .i64 (c' : Int), .int .i64 (i : Int), u8, u9, u10, u11, u12, u13, u14, u15, u16, u17, u18, u19, u20, u21, u22, u23, u24, u25, u26, u27, undef, undef, undef, undef, undef, undef, undef, undef, undef, undef], defers := [] } ∧ 0 < c' ∧ i + c' < n ∧ Hid (o = some (s % 2 ^ i + (2 ^ c' - 1) * 2 ^ (i + 1)))) (fun _ _ => 0) rfl ?first ?pass
  case first =>
    go_wp2_with (go_at_call 37; refine (jset_ok s n _ hn).mono ?_; rintro e w' ⟨rfl, rfl⟩; rw [hd])
    go_loop [6, 7] (fun vc vi => ∃ i c : Nat, i ≤ n ∧ Hid (NxI s n i c) ∧ vi = .int .i64 (i : Int) ∧ vc = .int .i64 (c : Int)) (fun _ vi => (intOf vi).toNat)
    case atStart => exact ⟨n, 0, Nat.le_refl _, HST, rfl, rfl⟩
    case round =>
      clear HST hd
      obtain ⟨i', c, hi, HI, rfl, rfl⟩ := hrel
      have hc6 : c ≤ 64 := by rw [← HI.out.1]; exact Nat.le_trans (cn_le _ _) (by omega)
      cases i' with
      | zero =>
        have HR : Hid (o = none) := by have h := HI.out.2; rw [Nat.pow_zero, Nat.div_one, Nat.sub_zero, HO.out] at h; exact h
        clear HI HO
        go_wp2
        rw [jjump_ret]
        go_ret2
        exact ⟨by rw [HR.out]; rfl, Below.refl _ _⟩
      | succ i =>
        have hbt := bt_lt s i
        have e1 : ((i + 1 : Nat) : Int) - 1 = (i : Int) := by omega
        by_cases hbit : bt s i = 1
        · have hdb : decide (bt s i = 1) = true := decide_eq_true hbit
          obtain ⟨c', hc'⟩ : ∃ c', c + 1 = c' := ⟨_, rfl⟩
          have e2 : (c : Int) + 1 = (c' : Int) := by omega
          by_cases hrise : i + c' < n
          · have HR : Hid (o = some (s % 2 ^ i + (2 ^ c' - 1) * 2 ^ (i + 1))) := by
              have h := HI.out.rise (by omega) hbit (by omega)
              rw [HO.out, hc'] at h
              exact h
            have c1 : decide ((i : Int) + (c' : Int) < (n : Int)) = true := decide_eq_true (by omega)
            clear HI HO hbit hbt
            go_wp2_with (go_at_call 17; refine (jhas_ok s i _ hs6).mono ?_; rintro e w' ⟨rfl, rfl⟩; rw [hdb])
            go_step3
            exact ⟨rfl, rfl, i, c', _, _, _, _, _, _, _, _, _, _, _, _, _, _, _, _, _, _, _, _, rfl, by omega, hrise, HR⟩
          · have HI2 : Hid (NxI s n i c') := by have h := HI.out.stay (by omega) hbit (by omega); rw [hc'] at h; exact h
            have c1 : decide ((i : Int) + (c' : Int) < (n : Int)) = false := decide_eq_false (by omega)
            clear HI hbit hbt HO
            go_wp2_with (go_at_call 17; refine (jhas_ok s i _ hs6).mono ?_; rintro e w' ⟨rfl, rfl⟩; rw [hdb])
            exact ⟨⟨i, c', by omega, HI2, by go_num, by go_num⟩, by simp [intOf]⟩
        · have hdb : decide (bt s i = 1) = false := decide_eq_false hbit
          have HI2 : Hid (NxI s n i c) := HI.out.skip (by omega) (by omega)
          clear HI hbit hbt HO
          go_wp2_with (go_at_call 17; refine (jhas_ok s i _ hs6).mono ?_; rintro e w' ⟨rfl, rfl⟩; rw [hdb])
          exact ⟨⟨i, c, by omega, HI2, by go_num, rfl⟩, by simp [intOf]⟩
  case pass =>
    rintro a' w' ⟨rfl, i, c', u8, u9, u10, u11, u12, u13, u14, u15, u16, u17, u18, u19, u20, u21, u22, u23, u24, u25, u26, u27, rfl, hc0, hrise, HR⟩
    obtain ⟨c, rfl⟩ : ∃ c, c' = c + 1 := ⟨c' - 1, by omega⟩
    obtain ⟨c', hc'⟩ : ∃ c', c + 1 = c' := ⟨_, rfl⟩
    have hsh := shl_lt (i := i) (c := c) (n := n) (by omega) hn
    rw [hc'] at hsh hrise HR ⊢
    have hmod := Nat.mod_lt s (Nat.two_pow_pos i)
    have hA := Nat.and_two_pow_sub_one_eq_mod s i
    have hor := or_high (a := s % 2 ^ i) (n := i + 1) (2 ^ c' - 1) (by rw [Nat.pow_succ]; omega)
    have hAl := j_pow_lt (show i < 64 by omega)
    obtain ⟨A, HA⟩ : ∃ A : Nat, Hid ((2 ^ i - 1 : Nat) = A) := ⟨_, rfl⟩
    obtain ⟨B, HBB⟩ : ∃ B : Nat, Hid ((2 ^ c' - 1 : Nat) = B) := ⟨_, rfl⟩
    obtain ⟨D, HD⟩ : ∃ D : Nat, Hid (s % 2 ^ i = D) := ⟨_, rfl⟩
    obtain ⟨E, HE⟩ : ∃ E : Nat, Hid (B * 2 ^ (i + 1) = E) := ⟨_, rfl⟩
    obtain ⟨F, HF⟩ : ∃ F : Nat, Hid (D + E = F) := ⟨_, rfl⟩
    rw [HBB.out, HE.out] at hsh
    rw [HA.out, HD.out] at hA
    rw [HBB.out, HD.out, HE.out, HF.out] at hor
    have HR2 : Hid (o = some F) := by have h := HR.out; rw [HBB.out, HD.out, HE.out, HF.out] at h; exact h
    have b1 : bits .and .u64 (s : Int) (A : Int) = (D : Int) := by rw [u64_and_nat s A hs6 (by rw [← HA.out]; omega), hA]
    have b2 : IntKind.u64.wrap ((B : Int) * 2 ^ (i + 1)) = (E : Int) := by
      have e : (B : Int) * 2 ^ (i + 1) = ((B * 2 ^ (i + 1) : Nat) : Int) := by simp
      rw [e, HE.out, IntKind.wrap_u64]
      omega
    have b3 : bits .or .u64 (D : Int) (E : Int) = (F : Int) := by rw [u64_or_nat D E (by rw [← HD.out]; exact Nat.lt_of_le_of_lt (Nat.mod_le _ _) hs6) hsh, hor]
    have HF1 : Hid (∀ w : World, Calls Try.prog 33 #[.int .i64 (i : Int)] w fun e w' => e = .returned (.int .u64 (A : Int)) ∧ w = w') := fun w => by rw [← HA.out]; exact jfirst_ok i w (by omega)
    have HF2 : Hid (∀ w : World, Calls Try.prog 33 #[.int .i64 (c' : Int)] w fun e w' => e = .returned (.int .u64 (B : Int)) ∧ w = w') := fun w => by rw [← HBB.out]; exact jfirst_ok c' w (by omega)
    have c1 : decide ((i : Int) + (c' : Int) < (n : Int)) = true := decide_eq_true (by omega)
    have hi62 : i + 1 < 64 := by omega
    clear HR hsh hmod hA hor hAl HA HBB HD HE HF hs6 HST HO hd
    go_wp2_with (first
      | (go_at_call 33; refine (HF1.out _).mono ?_; rintro e w' ⟨rfl, rfl⟩)
      | (go_at_call 33; refine (HF2.out _).mono ?_; rintro e w' ⟨rfl, rfl⟩))
    rw [jjump_ret]
    go_ret2
    exact ⟨by rw [HR2.out]; rfl, Below.refl _ _⟩
set_option maxHeartbeats 400000 in
theorem jnext_bad (n : Int) (s : Nat) (w : World) (h : n < 0 ∨ 64 < n) :
    Calls Try.prog 23 #[.int .i64 n, .int .u64 (s : Int)] w fun e w' => e = .returned (.tuple #[.int .u64 0, .bool false]) ∧ w = w' := by
  go_enter Try.func23, Try.ntmps23
  go_wp2
  go_step3
  go_wp2_with (go_at_call 37; refine (jset_bad s n _ h).mono ?_; rintro e w' ⟨rfl, rfl⟩)
  rw [Exit.noGoto_ret]
  go_ret2
  exact ⟨rfl, rfl⟩
set_option maxHeartbeats 400000 in
theorem jnext_no (n s : Nat) (w : World) (hn : n ≤ 64) (h : ¬ s < 2 ^ n) :
    Calls Try.prog 23 #[.int .i64 (n : Int), .int .u64 (s : Int)] w fun e w' => e = .returned (.tuple #[.int .u64 0, .bool false]) ∧ w = w' := by
  have hd : decide (s < 2 ^ n) = false := decide_eq_false h
  go_enter Try.func23, Try.ntmps23
  go_wp2
  go_step3
  go_wp2_with (go_at_call 37; refine (jset_ok s n _ hn).mono ?_; rintro e w' ⟨rfl, rfl⟩; rw [hd])
  rw [Exit.noGoto_ret]
  go_ret2
  exact ⟨rfl, rfl⟩
end Go.Proofs.Ytpmhpakjlagfjaa
