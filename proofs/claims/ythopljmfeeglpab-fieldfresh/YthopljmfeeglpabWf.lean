/-
  Contracts of Pow (all of it), Exp, Log, Inv, Div.
-/
import Derived.Test.YthopljmfeeglpabWe
namespace Go.Proofs.Ythopljmfeeglpab
open Go.RowKit
/-- What Pow answers: the power, and the error. -/
def pwv (a : Nat) (n : Int) : Nat := if n = 0 then 1 else if a = 0 then 0 else g (lg a * (inb n).toNat % 255)
def pwe (a : Nat) (n : Int) : Int := if a = 0 ∧ n < 0 then 5 else 0
theorem pwv_lt (a : Nat) (n : Int) : pwv a n < 256 := by
  unfold pwv; split
  · decide
  · split
    · decide
    · exact g_lt _
theorem ret_two {k : IntKind} {a b : Int} {c d : Int} (h : a = b) (h2 : c = d) : Ending.returned (.tuple #[.int k a, .int .i64 c]) = .returned (.tuple #[.int k b, .int .i64 d]) := by rw [h, h2]
set_option maxHeartbeats 400000 in
theorem pow_any (a : Nat) (n : Int) (w : World) (ha : a < 256) (hn : I64 n) :
    Calls Try.prog 11 #[.int .u8 (a : Int), .int .i64 n] w fun e w' => e = .returned (.tuple #[.int .u8 (pwv a n : Nat), .int .i64 (pwe a n)]) ∧ Below w.heap.size w w' := by
  by_cases h0 : n = 0
  · have e1 : pwv a n = 1 := by simp [pwv, h0]
    have e2 : pwe a n = 0 := by simp [pwe, h0]
    rw [e1, e2]
    subst h0
    clear e1 e2
    go_enter Try.func11, Try.ntmps11
    go_wp2
    go_ret2
    exact ⟨rfl, Below.refl _ _⟩
  by_cases h1 : a = 0
  · subst h1
    have t1 : (n == 0) = false := by simpa using h0
    by_cases h2 : n < 0
    · have e1 : pwv 0 n = 0 := by simp [pwv, h0]
      have e2 : pwe 0 n = 5 := by simp [pwe, h2]
      rw [e1, e2]
      clear e1 e2 h0
      go_enter Try.func11, Try.ntmps11
      go_wp2
      go_ret2
      exact ⟨rfl, Below.refl _ _⟩
    · have e1 : pwv 0 n = 0 := by simp [pwv, h0]
      have e2 : pwe 0 n = 0 := by simp [pwe, h2]
      rw [e1, e2]
      clear e1 e2 h0
      go_enter Try.func11, Try.ntmps11
      go_wp2
      go_ret2
      exact ⟨rfl, Below.refl _ _⟩
  · have e1 : pwv a n = g (lg a * (inb n).toNat % 255) := by simp [pwv, h0, h1]
    have e2 : pwe a n = 0 := by simp [pwe, h1]
    rw [e1, e2]
    exact pow_main a n w ha h1 hn h0
set_option maxRecDepth 20000 in
set_option maxHeartbeats 400000 in
theorem exp_any (n : Int) (w : World) (hn : I64 n) : Calls Try.prog 10 #[.int .i64 n] w fun e w' => e = .returned (.int .u8 (g (inb n).toNat : Nat)) ∧ Below w.heap.size w w' := by
  obtain ⟨m, hm, hm2⟩ : ∃ m : Nat, inb n = (m : Int) ∧ m < 255 := ⟨(inb n).toNat, by have := inb_bd n; omega, by have := inb_bd n; omega⟩
  have HN : Hid (I64 n) := hn
  clear hn
  rw [hm, Int.toNat_natCast]
  go_enter Try.func10, Try.ntmps10
  go_wp2_with (first
    | (go_at_call 23; refine (powers_ex _).mono ?_; rintro e w1 ⟨cs, HC, rfl, hb1⟩; have hi : ∀ w, (Instr.index 47 (.agg cs) (.int .i64 (m : Int))).run Try.prog w = .ok (.int .u8 (g m : Nat)) w := by rw [HC.out]; exact idx_row Try.underlying47 g .i64 m hm2)
    | (go_at_call 25; refine (inb_any _ _ HN.out).mono ?_; rintro e w2 ⟨rfl, rfl⟩))
  go_ret
  exact ⟨rfl, by assumption⟩
theorem two_below {w w1 w2 : World} (h1 : Below w.heap.size w w1) (h2 : Below w1.heap.size w1 w2) : Below w.heap.size w w2 := h1.trans (h2.mono h1.size)
set_option maxRecDepth 20000 in
set_option maxHeartbeats 400000 in
theorem log_main (a : Nat) (w : World) (ha : a < 256) (h0 : a ≠ 0) : Calls Try.prog 7 #[.int .u8 (a : Int)] w fun e w' => e = .returned (.tuple #[.int .i64 (lg a : Nat), .int .i64 0]) ∧ Below w.heap.size w w' := by
  have t0 : ((a : Int) == 0) = false := by simp; omega
  obtain ⟨l, hl, hl2⟩ : ∃ l, lg a = l ∧ l < 255 := ⟨_, rfl, (lg_at a ha h0).1⟩
  rw [hl]
  have HLA : Hid (lg a = l) := hl
  clear hl
  go_enter Try.func7, Try.ntmps7
  go_wp2_with (first
    | (go_at_call 23; refine (powers_ex _).mono ?_; rintro e w1 ⟨cs, HC, rfl, hb1⟩)
    | (go_at_call 22; refine (exps_ex _ cs HC).mono ?_; rintro e w2 ⟨ls, HL, rfl, hb2⟩; have hi : ∀ w, (Instr.index 45 (.agg ls) (.int .u8 (a : Int))).run Try.prog w = .ok (.int .u8 (l : Int)) w := by rw [HL.out, ← HLA.out]; exact idx_row Try.underlying45 lg .u8 a ha))
  go_ret2
  exact ⟨rfl, two_below (by assumption) (by assumption)⟩
set_option maxHeartbeats 400000 in
theorem log_zero (w : World) : Calls Try.prog 7 #[.int .u8 0] w fun e w' => e = .returned (.tuple #[.int .i64 0, .int .i64 5]) ∧ w' = w := by
  go_enter Try.func7, Try.ntmps7
  go_wp2
  go_ret2
  exact ⟨rfl, rfl⟩
/-- What Inv answers. -/
def ive (a : Nat) : Int := if a = 0 then 5 else 0
theorem pwv_inv (a : Nat) (ha : a < 256) : pwv a (-1) = finv a := by
  unfold pwv finv
  rw [if_neg (by decide)]
  by_cases h : a = 0
  · simp [h]
  · rw [if_neg h, if_neg h, g_mod, show (inb (-1)).toNat = 254 from rfl]
    have h1 := (lg_at a ha h).1
    rw [← g_mod (255 - lg a), ← g_mod (lg a * 254)]
    congr 1
    omega
theorem pwe_inv (a : Nat) : pwe a (-1) = ive a := by simp [pwe, ive]
end Go.Proofs.Ythopljmfeeglpab
