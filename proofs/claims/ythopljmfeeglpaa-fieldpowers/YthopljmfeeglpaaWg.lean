/-
  Contracts of the reference's times, Pow, Exp, Log, Inv, Div.
-/
import Derived.Test.YthopljmfeeglpaaWf
namespace Go.Proofs.Ythopljmfeeglpaa
open Go.RowKit
set_option maxHeartbeats 400000 in
theorem times_any (a n : Nat) (w : World) (ha : a < 256) (hn : n ≤ 255) : Calls Try.prog 35 #[.int .u8 (a : Int), .int .i64 (n : Int)] w fun e w' => e = .returned (.int .u8 (fpow a n : Nat)) ∧ w' = w := by
  go_enter Try.func35, Try.ntmps35
  go_wp2
  go_loop [5, 6] (fun p i => ∃ k : Nat, k ≤ n ∧ i = .int .i64 (k : Int) ∧ p = .int .u8 ((fpow a k : Nat) : Int)) (fun _ i => n - (intOf i).toNat)
  case atStart => exact ⟨0, by omega, rfl, rfl⟩
  case round =>
    obtain ⟨k, hk, rfl, rfl⟩ := hrel
    have hp := fpow_lt a k
    by_cases hlt : k < n
    · go_wp2_with (go_at_call 11; refine (rmul_nat _ _ _ hp ha).mono ?_; rintro e w' ⟨rfl, rfl⟩)
      exact ⟨⟨k + 1, by omega, by go_num, rfl⟩, by simp [intOf]; omega⟩
    · obtain rfl : k = n := by omega
      go_wp2
      go_ret
      exact ⟨rfl, rfl⟩
theorem pwv_times (a : Nat) (n : Int) (ha : a < 256) (h0 : a ≠ 0) : pwv a n = fpow a (inb n).toNat := by
  unfold pwv
  by_cases h : n = 0
  · subst h; rfl
  · rw [if_neg h, if_neg h0, g_mod, fpow_lg a _ ha h0]
set_option maxHeartbeats 400000 in
theorem rpow_any (a : Nat) (n : Int) (w : World) (ha : a < 256) (hn : I64 n) :
    Calls Try.prog 17 #[.int .u8 (a : Int), .int .i64 n] w fun e w' => e = .returned (.tuple #[.int .u8 (pwv a n : Nat), .int .i64 (pwe a n)]) ∧ w' = w := by
  obtain ⟨h1, h2⟩ := hn
  by_cases h0 : a = 0
  · subst h0
    by_cases h3 : n < 0
    · have e1 : pwv 0 n = 0 := by simp [pwv]; omega
      have e2 : pwe 0 n = 5 := by simp [pwe, h3]
      rw [e1, e2]
      clear e1 e2
      go_enter Try.func17, Try.ntmps17
      go_wp2
      go_ret2
      exact ⟨rfl, rfl⟩
    by_cases h4 : n = 0
    · subst h4
      go_enter Try.func17, Try.ntmps17
      go_wp2
      go_ret2
      exact ⟨rfl, rfl⟩
    · have e1 : pwv 0 n = 0 := by simp [pwv]; omega
      have e2 : pwe 0 n = 0 := by simp [pwe, h3]
      rw [e1, e2]
      clear e1 e2
      have t : (n == 0) = false := by simpa using h4
      clear h4
      go_enter Try.func17, Try.ntmps17
      go_wp2
      go_ret2
      exact ⟨rfl, rfl⟩
  · have e2 : pwe a n = 0 := by simp [pwe, h0]
    obtain ⟨m, hm, hm2, HM⟩ : ∃ m : Nat, inb n = (m : Int) ∧ m < 255 ∧ Hid (pwv a n = fpow a m) := ⟨(inb n).toNat, by have := inb_bd n; omega, by have := inb_bd n; omega, pwv_times a n ha h0⟩
    rw [e2, HM.out]
    have t0 : ((a : Int) == 0) = false := by simp; omega
    have HB : Hid (inb n = (m : Int)) := hm
    clear e2 hm h0
    by_cases h3 : 0 ≤ n
    · have hr : n % 255 = (m : Int) := HB.out
      go_enter Try.func17, Try.ntmps17
      go_wp2_with (go_at_call 35; refine (times_any a m _ ha (by omega)).mono ?_; rintro e w' ⟨rfl, rfl⟩)
      go_ret2
      exact ⟨rfl, rfl⟩
    · have HT : Hid (n.tmod 255 = -((-n) % 255)) := tmod_neg n (by omega)
      have HB2 : Hid (n % 255 = (m : Int)) := HB.out
      by_cases h5 : n.tmod 255 < 0
      · have h6 : wrap64 (n.tmod 255 + 255) = (m : Int) := by
          have := HT.out; have := HB2.out; unfold wrap64; omega
        go_enter Try.func17, Try.ntmps17
        go_wp2_with (go_at_call 35; refine (times_any a m _ ha (by omega)).mono ?_; rintro e w' ⟨rfl, rfl⟩)
        go_ret2
        exact ⟨rfl, rfl⟩
      · have h6 : n.tmod 255 = (m : Int) := by
          have := HT.out; have := HB2.out; omega
        clear h5
        go_enter Try.func17, Try.ntmps17
        go_wp2_with (go_at_call 35; refine (times_any a m _ ha (by omega)).mono ?_; rintro e w' ⟨rfl, rfl⟩)
        go_ret2
        exact ⟨rfl, rfl⟩
theorem pwv_two (n : Int) : pwv 2 n = g (inb n).toNat := by
  rw [pwv_times 2 n (by decide) (by decide), fpow_lg 2 _ (by decide) (by decide), show lg 2 = 1 from by kernel_rfl, Nat.one_mul]
set_option maxHeartbeats 400000 in
theorem rexp_any (n : Int) (w : World) (hn : I64 n) : Calls Try.prog 21 #[.int .i64 n] w fun e w' => e = .returned (.int .u8 (g (inb n).toNat : Nat)) ∧ w' = w := by
  have HR : Hid (∀ w, Calls Try.prog 17 #[.int .u8 2, .int .i64 n] w fun e w' => e = .returned (.tuple #[.int .u8 (g (inb n).toNat : Nat), .int .i64 (pwe 2 n)]) ∧ w' = w) := by
    intro w
    have := rpow_any 2 n w (by decide) hn
    rw [pwv_two] at this
    exact this
  go_enter Try.func21, Try.ntmps21
  go_wp2_with (go_at_call 17; refine (HR.out _).mono ?_; rintro e w' ⟨rfl, rfl⟩)
  go_ret
  exact ⟨rfl, rfl⟩
/-- What Log answers as its error. -/
def lge (a : Nat) : Int := if a = 0 then 5 else 0
theorem dbl_is (a : Nat) (h : a < 256) : fm a 2 = dbl a := by
  have := fm_dbl_r a 1 h (by decide)
  rw [fm_one a h] at this
  exact this
set_option maxRecDepth 20000 in
set_option maxHeartbeats 400000 in
theorem rlog_any (a : Nat) (w : World) (ha : a < 256) : Calls Try.prog 19 #[.int .u8 (a : Int)] w fun e w' => e = .returned (.tuple #[.int .i64 (lg a : Nat), .int .i64 (lge a)]) ∧ w' = w := by
  go_enter Try.func19, Try.ntmps19
  go_wp2
  go_loop [4, 5] (fun p i => ∃ k : Nat, k ≤ 255 ∧ i = .int .i64 (k : Int) ∧ p = .int .u8 ((g k : Nat) : Int) ∧ Hid (∀ j, j < k → g j ≠ a)) (fun _ i => 255 - (intOf i).toNat)
  case atStart => exact ⟨0, by omega, rfl, rfl, fun j hj => by omega⟩
  case round =>
    obtain ⟨k, hk, rfl, rfl, HJ⟩ := hrel
    have hp := g_lt k
    by_cases hlt : k < 255
    · by_cases he : g k = a
      · have HE : Hid (g k = a) := he
        have t : (((g k : Nat) : Int) == (a : Int)) = true := by simp [he]
        clear he
        go_wp2
        go_ret2
        have e := HE.out
        exact ⟨ret_two (by rw [← e, lg_g k hlt]) (by have := g_pos k; simp [lge]; omega), rfl⟩
      · have t : (((g k : Nat) : Int) == (a : Int)) = false := by simp; omega
        have HE : Hid (fm (g k) 2 = g (k + 1)) := dbl_is _ hp
        have HJ2 : Hid (∀ j, j < k + 1 → g j ≠ a) := by
          intro j hj
          by_cases ej : j = k
          · subst ej; exact he
          · exact HJ.out j (by omega)
        clear he
        go_wp2_with (go_at_call 11; refine (rmul_nat _ 2 _ hp (by decide)).mono ?_; rintro e w' ⟨rfl, rfl⟩)
        exact ⟨⟨k + 1, by omega, by go_num, by rw [HE.out], HJ2⟩, by simp [intOf]; omega⟩
    · have h0 : a = 0 := by
        by_cases h : a = 0
        · exact h
        · have h2 := lg_at a ha h
          exact absurd h2.2 (HJ.out _ (by omega))
      subst h0
      go_wp2
      go_ret2
      exact ⟨rfl, rfl⟩
set_option maxRecDepth 20000 in
set_option maxHeartbeats 400000 in
theorem rinv_any (a : Nat) (w : World) (ha : a < 256) : Calls Try.prog 13 #[.int .u8 (a : Int)] w fun e w' => e = .returned (.tuple #[.int .u8 (finv a : Nat), .int .i64 (ive a)]) ∧ w' = w := by
  go_enter Try.func13, Try.ntmps13
  go_wp2
  go_loop [4] (fun i => ∃ k : Nat, 1 ≤ k ∧ k ≤ 256 ∧ i = .int .i64 (k : Int) ∧ Hid (∀ j, j < k → fm a j ≠ 1)) (fun i => 256 - (intOf i).toNat)
  case atStart => exact ⟨1, by omega, by omega, rfl, fun j hj => by rw [show j = 0 by omega, fm_zero]; decide⟩
  case round =>
    obtain ⟨k, hk1, hk, rfl, HJ⟩ := hrel
    by_cases hlt : k < 256
    · by_cases he : fm a k = 1
      · have HE : Hid (fm a k = 1) := he
        have t : (((fm a k : Nat) : Int) == 1) = true := by simp [he]
        clear he
        go_wp2_with (go_at_call 11; refine (rmul_nat _ _ _ ha hlt).mono ?_; rintro e w' ⟨rfl, rfl⟩)
        go_ret2
        have e := inv_unique a k ha hlt HE.out
        exact ⟨ret_two (by rw [← e.2]) (by simp [ive, e.1]), rfl⟩
      · have t : (((fm a k : Nat) : Int) == 1) = false := by simp; omega
        have HJ2 : Hid (∀ j, j < k + 1 → fm a j ≠ 1) := by
          intro j hj
          by_cases ej : j = k
          · subst ej; exact he
          · exact HJ.out j (by omega)
        clear he
        go_wp2_with (go_at_call 11; refine (rmul_nat _ _ _ ha hlt).mono ?_; rintro e w' ⟨rfl, rfl⟩)
        exact ⟨⟨k + 1, by omega, by omega, by go_num, HJ2⟩, by simp [intOf]; omega⟩
    · have h0 : a = 0 := by
        by_cases h : a = 0
        · exact h
        · exact absurd (fm_finv a ha h) (HJ.out _ (by have := finv_lt a; omega))
      subst h0
      go_wp2
      go_ret2
      exact ⟨rfl, rfl⟩
set_option maxHeartbeats 400000 in
theorem rdiv_any (a b : Nat) (w : World) (ha : a < 256) (hb : b < 256) : Calls Try.prog 15 #[.int .u8 (a : Int), .int .u8 (b : Int)] w fun e w' => e = .returned (.tuple #[.int .u8 (fm a (finv b) : Nat), .int .i64 (ive b)]) ∧ w' = w := by
  have hf := finv_lt b
  go_enter Try.func15, Try.ntmps15
  go_wp2_with (first | (go_at_call 13; refine (rinv_any b _ hb).mono ?_; rintro e w' ⟨rfl, rfl⟩) | (go_at_call 11; refine (rmul_nat _ _ _ ha hf).mono ?_; rintro e w' ⟨rfl, rfl⟩))
  go_ret2
  exact ⟨rfl, rfl⟩
end Go.Proofs.Ythopljmfeeglpaa
