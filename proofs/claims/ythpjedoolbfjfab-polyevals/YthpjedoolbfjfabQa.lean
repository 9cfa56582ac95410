/-
  Contracts of the program's polynomials: trimmed, Degree, Eval, tooLong.
-/
import Derived.Test.YthpjedoolbfjfabRj
namespace Go.Proofs.Ythpjedoolbfjfab
open Go.RowKit
set_option maxHeartbeats 400000 in
theorem trimmed_any (w : World) (a : Option Addr) (n c t : Nat) (f : Nat → Nat) (h : Lk w a n c f) (HT : Hid (tlen f n = t)) :
    Calls Try.prog 25 #[.slice a n c] w fun e w' => e = .returned (.slice a t c) ∧ w = w' := by
  have HL : Hid (Lk w a n c f) := h
  have hn := h.2.2.2
  have hnc := h.2.1
  clear h
  go_enter Try.func25, Try.ntmps25
  go_wp2
  go_loop [0] (fun v => ∃ k : Nat, k ≤ n ∧ v = .slice a k c ∧ Hid (tlen f k = t)) (fun v => vlen v)
  case atStart => exact ⟨n, by omega, rfl, HT⟩
  case round =>
    clear HT
    obtain ⟨k, hk, rfl, HT⟩ := hrel
    by_cases h0 : k = 0
    · subst h0
      have hd : decide ((0 : Int) < 0) = false := by decide
      obtain rfl : t = 0 := HT.out.symm
      go_wp2
      go_ret
      exact ⟨rfl, rfl⟩
    · obtain ⟨m, rfl⟩ : ∃ m, k = m + 1 := ⟨k - 1, by omega⟩
      obtain ⟨b, o, ea, hc⟩ := HL.out.1.2 m (by omega)
      subst ea
      by_cases hz : f m = 0
      · have HE : Hid (tlen f m = t) := by show _ = _; rw [← HT.out]; simp [tlen, hz]
        rw [hz] at hc
        clear hz
        go_wp2
        exact ⟨⟨m, by omega, rfl, HE⟩, by simp [vlen]⟩
      · have HE : Hid (m + 1 = t) := by show _ = _; rw [← HT.out]; simp [tlen, hz]
        have t' : ((f m : Int) == 0) = false := by simp; omega
        clear hz
        obtain rfl := HE.out
        go_wp2
        go_ret
        exact ⟨rfl, rfl⟩
set_option maxHeartbeats 400000 in
theorem degree_any (w : World) (a : Option Addr) (n c t : Nat) (f : Nat → Nat) (h : Lk w a n c f) (HT : Hid (tlen f n = t)) :
    Calls Try.prog 14 #[.slice a n c] w fun e w' => e = .returned (.int .i64 ((t : Int) - 1)) ∧ w = w' := by
  have HL : Hid (Lk w a n c f) := h
  have hn := h.2.2.2
  have htn : t ≤ n := by rw [← HT.out]; exact tlen_le f n
  clear h
  go_enter Try.func14, Try.ntmps14
  go_wp2_with (go_at_call 25; refine (trimmed_any _ _ _ _ _ f HL.out HT).mono ?_; rintro e w' ⟨rfl, rfl⟩)
  go_ret
  exact ⟨rfl, rfl⟩
theorem add_at (a b : Nat) (w : World) (ha : a < 256) (hb : b < 256) : Calls Try.prog 28 #[.int .u8 (a : Int), .int .u8 (b : Int)] w fun e w' => e = .returned (.int .u8 ((a ^^^ b : Nat) : Int)) ∧ w' = w :=
  add_any a b w (byte_nat a ha) (byte_nat b hb)
/-- The value of the coefficients from k on. -/
def hv (f : Nat → Nat) (x n k : Nat) : Nat := xs (fun j => fm (f (k + j)) (fpow x j)) (n - k)
theorem hv_lt {f : Nat → Nat} {x n k : Nat} (hf : ∀ i, i < n → f i < 256) : hv f x n k < 256 := xs_lt (fun j hj => fm_lt _ _ (hf _ (by omega)))
theorem hv_step {f : Nat → Nat} {x n k : Nat} (hf : ∀ i, i < n → f i < 256) (hk : k < n) : hv f x n k = fm (hv f x n (k + 1)) x ^^^ f k := by
  unfold hv
  obtain ⟨m, hm⟩ : ∃ m, n - k = m + 1 := ⟨n - k - 1, by omega⟩
  rw [hm, show n - (k + 1) = m by omega, xs_front, Nat.xor_comm]
  congr 1
  · rw [xs_mul_r _ _ _ (fun j hj => fm_lt _ _ (hf _ (by omega)))]
    refine xs_congr (fun j hj => ?_)
    rw [show k + (j + 1) = k + 1 + j by omega, fm_assoc _ _ _ (hf _ (by omega)) (fpow_lt x j)]
    rfl
  · exact fm_one _ (hf k hk)
theorem hv_all (f : Nat → Nat) (x n : Nat) : hv f x n 0 = ev f n x := by
  unfold hv ev
  exact xs_congr (fun j _ => by rw [Nat.zero_add])
set_option maxHeartbeats 1000000 in
theorem eval_any (w : World) (a : Option Addr) (n c x : Nat) (f : Nat → Nat) (h : Sl w a n f) (hn : n ≤ 140737488351232) (hx : x < 256) :
    Calls Try.prog 10 #[.slice a n c, .int .u8 (x : Int)] w fun e w' => e = .returned (.int .u8 (ev f n x : Nat)) ∧ ∃ m, w' = w.drewN m := by
  have HS : Hid (Sl w a n f) := h
  have HF : Hid (∀ i, i < n → f i < 256) := h.1
  clear h
  rw [← hv_all]
  go_enter Try.func10, Try.ntmps10
  go_wp2
  go_loopw [5, 6] (fun v i wr => ∃ k m : Nat, k ≤ n ∧ i = .int .i64 ((k : Int) - 1) ∧ v = .int .u8 ((hv f x n k : Nat) : Int) ∧ wr = w.drewN m) (fun _ i _ => (intOf i + 1).toNat)
  case atStart => exact ⟨n, 0, by omega, rfl, by unfold hv; rw [Nat.sub_self]; rfl, rfl⟩
  case round =>
    obtain ⟨k, m, hk, rfl, rfl, hwr⟩ := hrel
    have HW : Hid (wr = w.drewN m) := hwr
    clear hwr
    by_cases h0 : k = 0
    · subst h0
      have hd : decide ((0 : Int) ≤ (0 : Int) - 1) = false := by decide
      go_wp2
      go_ret
      exact ⟨rfl, m, HW.out⟩
    · obtain ⟨j, rfl⟩ : ∃ j, k = j + 1 := ⟨k - 1, by omega⟩
      obtain ⟨b, o, ea, hc⟩ := HS.out.2 j (by omega)
      have hfj := HF.out j (by omega)
      obtain ⟨y, HY⟩ : ∃ y, Hid (f j = y) := ⟨_, rfl⟩
      rw [HY.out] at hc hfj
      obtain ⟨v, HV⟩ : ∃ v, Hid (hv f x n (j + 1) = v) := ⟨_, rfl⟩
      have hvl : v < 256 := by rw [← HV.out]; exact hv_lt HF.out
      obtain ⟨r, HR⟩ : ∃ r, Hid (fm v x = r) := ⟨_, rfl⟩
      have hr : r < 256 := by rw [← HR.out]; exact fm_lt _ _ hvl
      obtain ⟨s, HSS⟩ : ∃ s, Hid (r ^^^ y = s) := ⟨_, rfl⟩
      have HE : Hid (hv f x n j = s) := by show _ = _; rw [hv_step HF.out (by omega), HV.out, HR.out, HY.out, HSS.out]
      have H1 : Hid (∀ w, Calls Try.prog 29 #[.int .u8 (v : Int), .int .u8 (x : Int)] w fun e w' => e = .returned (.int .u8 (r : Int)) ∧ w' = w) := by rw [← HR.out]; exact fun w => mul_nat v x w hvl hx
      have H2 : Hid (∀ w, Calls Try.prog 28 #[.int .u8 (r : Int), .int .u8 (y : Int)] w fun e w' => e = .returned (.int .u8 (s : Int)) ∧ w' = w) := by rw [← HSS.out]; exact fun w => add_at r y w hr hfj
      rw [HV.out]
      have e1 : ((j + 1 : Nat) : Int) - 1 = (j : Int) := by omega
      rw [e1]
      have hj0 : (0 : Int) ≤ (j : Int) := by omega
      have hjn : (j : Int) < (n : Int) := by omega
      replace hc : wr.cell? ⟨b, o + j, none⟩ = some (.int .u8 (y : Int)) := by rw [HW.out]; exact hc
      clear HS hfj
      subst ea
      go_wp2
      go_quiet (first
        | (go_at_call 29; exact Calls.quiet_of_same (H1.out _))
        | (go_at_call 28; exact Calls.quiet_of_same (H2.out _)))
      go_wp2
      exact ⟨⟨j, m + _, by omega, by go_num, by rw [HE.out], by rw [HW.out]; exact World.drewN_drewN _ _ _⟩, by simp [intOf]⟩
end Go.Proofs.Ythpjedoolbfjfab
