/-
  Stage 12: the reference's Work.
  Stage 12: MayEnv, of the reference.
-/
import Derived.Test.YtemhodenkgngmaaDoorQttes16
import Derived.Test.YtemhodenkgngmaaDoorQttes17
import Derived.Test.YtemhodenkgngmaaDoorQttes00
set_option maxRecDepth 100000
set_option maxHeartbeats 16000000
namespace Go.Proofs.YtemhodenkgngmaaDoor
open Go.RowKit
theorem qgl (w : World) (k : Nat) (a b : Int) (hk : k < 256) : Calls Tryd.prog 34 #[.int .u8 (k : Int), .int .i64 a, .int .i64 b] w fun e w' => e = .returned (.tuple #[.int .i64 (wrv k a b), .int .i64 (wre k a b : Nat)]) ∧ w = w' := by
 have MA : True := trivial
 have MB : True := trivial
 have MC : True := trivial
 have HA : Hid (∀ w' : World, Calls Tryd.prog 58 #[.int .i64 a] w' fun e w'' => e = .returned (.bool (nmB a)) ∧ w' = w'') := fun w' => qcr w' a
 have HB : Hid (∀ w' : World, Calls Tryd.prog 58 #[.int .i64 b] w' fun e w'' => e = .returned (.bool (nmB b)) ∧ w' = w'') := fun w' => qcr w' b
 by_cases h3 : 3 ≤ k ∧ k ≤ 8
 case neg =>
  obtain ⟨e1, e2⟩ := wre2 (k := k) (a := a) (b := b) (fun g => h3 ⟨g.1, g.2.1⟩)
  rw [e1, e2]
  clear e1 e2
  by_cases g3 : k < 3
  ·have q1 : decide ((k : Int) < 3) = true := decide_eq_true (by omega)
   go_enter Tryd.func34, Tryd.ntmps34
   go_wp2_with (first
    | (go_at_call 58; first | (clear MA; refine (HA.out _).mono ?_; rintro e v1 ⟨rfl, rfl⟩) | (clear MB; refine (HB.out _).mono ?_; rintro e v2 ⟨rfl, rfl⟩) | (clear MC; refine (HC.out _).mono ?_; rintro e v3 ⟨rfl, rfl⟩)))
   go_ret2
   exact ⟨rfl, rfl⟩
  ·have q1 : decide ((k : Int) < 3) = false := decide_eq_false (by omega)
   have q2 : decide ((8 : Int) < (k : Int)) = true := decide_eq_true (by omega)
   go_enter Tryd.func34, Tryd.ntmps34
   go_wp2_with (first
    | (go_at_call 58; first | (clear MA; refine (HA.out _).mono ?_; rintro e v1 ⟨rfl, rfl⟩) | (clear MB; refine (HB.out _).mono ?_; rintro e v2 ⟨rfl, rfl⟩) | (clear MC; refine (HC.out _).mono ?_; rintro e v3 ⟨rfl, rfl⟩)))
   go_ret2
   exact ⟨rfl, rfl⟩
 have q1 : decide ((k : Int) < 3) = false := decide_eq_false (by omega)
 have q2 : decide ((8 : Int) < (k : Int)) = false := decide_eq_false (by omega)
 cases na : nmB a with
 | false =>
  obtain ⟨e1, e2⟩ := wre2 (k := k) (a := a) (b := b) (fun g => by rw [na] at g; cases g.2.2.1)
  rw [e1, e2]
  rw [na] at HA
  clear e1 e2
  go_enter Tryd.func34, Tryd.ntmps34
  go_wp2_with (first
   | (go_at_call 58; first | (clear MA; refine (HA.out _).mono ?_; rintro e v1 ⟨rfl, rfl⟩) | (clear MB; refine (HB.out _).mono ?_; rintro e v2 ⟨rfl, rfl⟩) | (clear MC; refine (HC.out _).mono ?_; rintro e v3 ⟨rfl, rfl⟩)))
  go_ret2
  exact ⟨rfl, rfl⟩
 | true =>
 rw [na] at HA
 cases nb : nmB b with
 | false =>
  obtain ⟨e1, e2⟩ := wre2 (k := k) (a := a) (b := b) (fun g => by rw [nb] at g; cases g.2.2.2)
  rw [e1, e2]
  rw [nb] at HB
  clear e1 e2
  go_enter Tryd.func34, Tryd.ntmps34
  go_wp2_with (first
   | (go_at_call 58; first | (clear MA; refine (HA.out _).mono ?_; rintro e v1 ⟨rfl, rfl⟩) | (clear MB; refine (HB.out _).mono ?_; rintro e v2 ⟨rfl, rfl⟩) | (clear MC; refine (HC.out _).mono ?_; rintro e v3 ⟨rfl, rfl⟩)))
  go_ret2
  exact ⟨rfl, rfl⟩
 | true =>
 rw [nb] at HB
 by_cases h7 : 7 ≤ k ∧ b = 0
 ·obtain ⟨e1, e2⟩ := wre5 (k := k) (a := a) (b := b) ⟨h3.1, h3.2, na, nb⟩ h7
  rw [e1, e2]
  clear e1 e2
  obtain ⟨h7, rfl⟩ := h7
  have q3 : decide ((7 : Int) ≤ (k : Int)) = true := decide_eq_true (by omega)
  go_enter Tryd.func34, Tryd.ntmps34
  go_wp2_with (first
   | (go_at_call 58; first | (clear MA; refine (HA.out _).mono ?_; rintro e v1 ⟨rfl, rfl⟩) | (clear MB; refine (HB.out _).mono ?_; rintro e v2 ⟨rfl, rfl⟩) | (clear MC; refine (HC.out _).mono ?_; rintro e v3 ⟨rfl, rfl⟩)))
  go_ret2
  exact ⟨rfl, rfl⟩
 have hw := qe3 (k := k) na nb
 obtain ⟨c, Hc⟩ : ∃ c, Hid (wop k a b = c) := ⟨_, rfl⟩
 have HC : Hid (∀ w' : World, Calls Tryd.prog 58 #[.int .i64 c] w' fun e w'' => e = .returned (.bool (nmB c)) ∧ w' = w'') := fun w' => qcr w' c
 have H0 := fun hn => wre0 (k := k) (a := a) (b := b) ⟨h3.1, h3.2, na, nb⟩ h7 Hc.out hn
 have H1 := fun hn => wre120 (k := k) (a := a) (b := b) ⟨h3.1, h3.2, na, nb⟩ h7 Hc.out hn
 rw [Hc.out] at hw
 have hk6 : k = 3 ∨ k = 4 ∨ k = 5 ∨ k = 6 ∨ k = 7 ∨ k = 8 := by omega
 clear na nb
 rcases hk6 with rfl | rfl | rfl | rfl | rfl | rfl
 ·have e9 : -a = c := Hc.out
  have w9 : IntKind.i64.wrap (-a) = c := by rw [e9]; exact qbj hw.1 hw.2
  clear Hc h7 h3 
  have hb2 : b = 0 ∨ (b == 0) = false := by
   by_cases e : b = 0
   ·exact .inl e
   ·exact .inr (by simpa using e)
  rcases hb2 with rfl | q0
  ·clear e9 hw
   cases hn : nmB c with
   | true =>
    obtain ⟨e1, e2⟩ := H0 hn
    rw [e1, e2]
    rw [hn] at HC
    clear e1 e2 H0 H1 hn
    go_enter Tryd.func34, Tryd.ntmps34
    go_wp2_with (first
     | (go_at_call 58; first | (clear MA; refine (HA.out _).mono ?_; rintro e v1 ⟨rfl, rfl⟩) | (clear MB; refine (HB.out _).mono ?_; rintro e v2 ⟨rfl, rfl⟩) | (clear MC; refine (HC.out _).mono ?_; rintro e v3 ⟨rfl, rfl⟩)))
    go_ret2
    exact ⟨rfl, rfl⟩
   | false =>
    obtain ⟨e1, e2⟩ := H1 hn
    rw [e1, e2]
    rw [hn] at HC
    clear e1 e2 H0 H1 hn
    go_enter Tryd.func34, Tryd.ntmps34
    go_wp2_with (first
     | (go_at_call 58; first | (clear MA; refine (HA.out _).mono ?_; rintro e v1 ⟨rfl, rfl⟩) | (clear MB; refine (HB.out _).mono ?_; rintro e v2 ⟨rfl, rfl⟩) | (clear MC; refine (HC.out _).mono ?_; rintro e v3 ⟨rfl, rfl⟩)))
    go_ret2
    exact ⟨rfl, rfl⟩
  ·clear e9 hw
   cases hn : nmB c with
   | true =>
    obtain ⟨e1, e2⟩ := H0 hn
    rw [e1, e2]
    rw [hn] at HC
    clear e1 e2 H0 H1 hn
    go_enter Tryd.func34, Tryd.ntmps34
    go_wp2_with (first
     | (go_at_call 58; first | (clear MA; refine (HA.out _).mono ?_; rintro e v1 ⟨rfl, rfl⟩) | (clear MB; refine (HB.out _).mono ?_; rintro e v2 ⟨rfl, rfl⟩) | (clear MC; refine (HC.out _).mono ?_; rintro e v3 ⟨rfl, rfl⟩)))
    go_ret2
    exact ⟨rfl, rfl⟩
   | false =>
    obtain ⟨e1, e2⟩ := H1 hn
    rw [e1, e2]
    rw [hn] at HC
    clear e1 e2 H0 H1 hn
    go_enter Tryd.func34, Tryd.ntmps34
    go_wp2_with (first
     | (go_at_call 58; first | (clear MA; refine (HA.out _).mono ?_; rintro e v1 ⟨rfl, rfl⟩) | (clear MB; refine (HB.out _).mono ?_; rintro e v2 ⟨rfl, rfl⟩) | (clear MC; refine (HC.out _).mono ?_; rintro e v3 ⟨rfl, rfl⟩)))
    go_ret2
    exact ⟨rfl, rfl⟩
 ·have e9 : a + b = c := Hc.out
  have w9 : IntKind.i64.wrap (a + b) = c := by rw [e9]; exact qbj hw.1 hw.2
  clear Hc h7 h3 
  have hb2 : b = 0 ∨ (b == 0) = false := by
   by_cases e : b = 0
   ·exact .inl e
   ·exact .inr (by simpa using e)
  rcases hb2 with rfl | q0
  ·obtain rfl : a = c := by simpa using e9
   obtain ⟨b1, b2⟩ := hw
   clear e9 w9
   cases hn : nmB a with
   | true =>
    obtain ⟨e1, e2⟩ := H0 hn
    rw [e1, e2]
    rw [hn] at HC
    clear e1 e2 H0 H1 hn
    go_enter Tryd.func34, Tryd.ntmps34
    go_wp2_with (first
     | (go_at_call 58; first | (clear MA; refine (HA.out _).mono ?_; rintro e v1 ⟨rfl, rfl⟩) | (clear MB; refine (HB.out _).mono ?_; rintro e v2 ⟨rfl, rfl⟩) | (clear MC; refine (HC.out _).mono ?_; rintro e v3 ⟨rfl, rfl⟩)))
    go_ret2
    exact ⟨rfl, rfl⟩
   | false =>
    obtain ⟨e1, e2⟩ := H1 hn
    rw [e1, e2]
    rw [hn] at HC
    clear e1 e2 H0 H1 hn
    go_enter Tryd.func34, Tryd.ntmps34
    go_wp2_with (first
     | (go_at_call 58; first | (clear MA; refine (HA.out _).mono ?_; rintro e v1 ⟨rfl, rfl⟩) | (clear MB; refine (HB.out _).mono ?_; rintro e v2 ⟨rfl, rfl⟩) | (clear MC; refine (HC.out _).mono ?_; rintro e v3 ⟨rfl, rfl⟩)))
    go_ret2
    exact ⟨rfl, rfl⟩
  ·clear e9 hw
   cases hn : nmB c with
   | true =>
    obtain ⟨e1, e2⟩ := H0 hn
    rw [e1, e2]
    rw [hn] at HC
    clear e1 e2 H0 H1 hn
    go_enter Tryd.func34, Tryd.ntmps34
    go_wp2_with (first
     | (go_at_call 58; first | (clear MA; refine (HA.out _).mono ?_; rintro e v1 ⟨rfl, rfl⟩) | (clear MB; refine (HB.out _).mono ?_; rintro e v2 ⟨rfl, rfl⟩) | (clear MC; refine (HC.out _).mono ?_; rintro e v3 ⟨rfl, rfl⟩)))
    go_ret2
    exact ⟨rfl, rfl⟩
   | false =>
    obtain ⟨e1, e2⟩ := H1 hn
    rw [e1, e2]
    rw [hn] at HC
    clear e1 e2 H0 H1 hn
    go_enter Tryd.func34, Tryd.ntmps34
    go_wp2_with (first
     | (go_at_call 58; first | (clear MA; refine (HA.out _).mono ?_; rintro e v1 ⟨rfl, rfl⟩) | (clear MB; refine (HB.out _).mono ?_; rintro e v2 ⟨rfl, rfl⟩) | (clear MC; refine (HC.out _).mono ?_; rintro e v3 ⟨rfl, rfl⟩)))
    go_ret2
    exact ⟨rfl, rfl⟩
 ·have e9 : a - b = c := Hc.out
  have w9 : IntKind.i64.wrap (a - b) = c := by rw [e9]; exact qbj hw.1 hw.2
  clear Hc h7 h3 
  have hb2 : b = 0 ∨ (b == 0) = false := by
   by_cases e : b = 0
   ·exact .inl e
   ·exact .inr (by simpa using e)
  rcases hb2 with rfl | q0
  ·obtain rfl : a = c := by simpa using e9
   obtain ⟨b1, b2⟩ := hw
   clear e9 w9
   cases hn : nmB a with
   | true =>
    obtain ⟨e1, e2⟩ := H0 hn
    rw [e1, e2]
    rw [hn] at HC
    clear e1 e2 H0 H1 hn
    go_enter Tryd.func34, Tryd.ntmps34
    go_wp2_with (first
     | (go_at_call 58; first | (clear MA; refine (HA.out _).mono ?_; rintro e v1 ⟨rfl, rfl⟩) | (clear MB; refine (HB.out _).mono ?_; rintro e v2 ⟨rfl, rfl⟩) | (clear MC; refine (HC.out _).mono ?_; rintro e v3 ⟨rfl, rfl⟩)))
    go_ret2
    exact ⟨rfl, rfl⟩
   | false =>
    obtain ⟨e1, e2⟩ := H1 hn
    rw [e1, e2]
    rw [hn] at HC
    clear e1 e2 H0 H1 hn
    go_enter Tryd.func34, Tryd.ntmps34
    go_wp2_with (first
     | (go_at_call 58; first | (clear MA; refine (HA.out _).mono ?_; rintro e v1 ⟨rfl, rfl⟩) | (clear MB; refine (HB.out _).mono ?_; rintro e v2 ⟨rfl, rfl⟩) | (clear MC; refine (HC.out _).mono ?_; rintro e v3 ⟨rfl, rfl⟩)))
    go_ret2
    exact ⟨rfl, rfl⟩
  ·clear e9 hw
   cases hn : nmB c with
   | true =>
    obtain ⟨e1, e2⟩ := H0 hn
    rw [e1, e2]
    rw [hn] at HC
    clear e1 e2 H0 H1 hn
    go_enter Tryd.func34, Tryd.ntmps34
    go_wp2_with (first
     | (go_at_call 58; first | (clear MA; refine (HA.out _).mono ?_; rintro e v1 ⟨rfl, rfl⟩) | (clear MB; refine (HB.out _).mono ?_; rintro e v2 ⟨rfl, rfl⟩) | (clear MC; refine (HC.out _).mono ?_; rintro e v3 ⟨rfl, rfl⟩)))
    go_ret2
    exact ⟨rfl, rfl⟩
   | false =>
    obtain ⟨e1, e2⟩ := H1 hn
    rw [e1, e2]
    rw [hn] at HC
    clear e1 e2 H0 H1 hn
    go_enter Tryd.func34, Tryd.ntmps34
    go_wp2_with (first
     | (go_at_call 58; first | (clear MA; refine (HA.out _).mono ?_; rintro e v1 ⟨rfl, rfl⟩) | (clear MB; refine (HB.out _).mono ?_; rintro e v2 ⟨rfl, rfl⟩) | (clear MC; refine (HC.out _).mono ?_; rintro e v3 ⟨rfl, rfl⟩)))
    go_ret2
    exact ⟨rfl, rfl⟩
 ·have e9 : a * b = c := Hc.out
  have w9 : IntKind.i64.wrap (a * b) = c := by rw [e9]; exact qbj hw.1 hw.2
  clear Hc h7 h3 
  have hb2 : b = 0 ∨ (b == 0) = false := by
   by_cases e : b = 0
   ·exact .inl e
   ·exact .inr (by simpa using e)
  rcases hb2 with rfl | q0
  ·obtain rfl : 0 = c := by simpa using e9
   clear e9 w9 hw
   cases hn : nmB 0 with
   | true =>
    obtain ⟨e1, e2⟩ := H0 hn
    rw [e1, e2]
    rw [hn] at HC
    clear e1 e2 H0 H1 hn
    go_enter Tryd.func34, Tryd.ntmps34
    go_wp2_with (first
     | (go_at_call 58; first | (clear MA; refine (HA.out _).mono ?_; rintro e v1 ⟨rfl, rfl⟩) | (clear MB; refine (HB.out _).mono ?_; rintro e v2 ⟨rfl, rfl⟩) | (clear MC; refine (HC.out _).mono ?_; rintro e v3 ⟨rfl, rfl⟩)))
    go_ret2
    exact ⟨rfl, rfl⟩
   | false =>
    obtain ⟨e1, e2⟩ := H1 hn
    rw [e1, e2]
    rw [hn] at HC
    clear e1 e2 H0 H1 hn
    go_enter Tryd.func34, Tryd.ntmps34
    go_wp2_with (first
     | (go_at_call 58; first | (clear MA; refine (HA.out _).mono ?_; rintro e v1 ⟨rfl, rfl⟩) | (clear MB; refine (HB.out _).mono ?_; rintro e v2 ⟨rfl, rfl⟩) | (clear MC; refine (HC.out _).mono ?_; rintro e v3 ⟨rfl, rfl⟩)))
    go_ret2
    exact ⟨rfl, rfl⟩
  ·clear e9 hw
   cases hn : nmB c with
   | true =>
    obtain ⟨e1, e2⟩ := H0 hn
    rw [e1, e2]
    rw [hn] at HC
    clear e1 e2 H0 H1 hn
    go_enter Tryd.func34, Tryd.ntmps34
    go_wp2_with (first
     | (go_at_call 58; first | (clear MA; refine (HA.out _).mono ?_; rintro e v1 ⟨rfl, rfl⟩) | (clear MB; refine (HB.out _).mono ?_; rintro e v2 ⟨rfl, rfl⟩) | (clear MC; refine (HC.out _).mono ?_; rintro e v3 ⟨rfl, rfl⟩)))
    go_ret2
    exact ⟨rfl, rfl⟩
   | false =>
    obtain ⟨e1, e2⟩ := H1 hn
    rw [e1, e2]
    rw [hn] at HC
    clear e1 e2 H0 H1 hn
    go_enter Tryd.func34, Tryd.ntmps34
    go_wp2_with (first
     | (go_at_call 58; first | (clear MA; refine (HA.out _).mono ?_; rintro e v1 ⟨rfl, rfl⟩) | (clear MB; refine (HB.out _).mono ?_; rintro e v2 ⟨rfl, rfl⟩) | (clear MC; refine (HC.out _).mono ?_; rintro e v3 ⟨rfl, rfl⟩)))
    go_ret2
    exact ⟨rfl, rfl⟩
 ·have e9 : a.tdiv b = c := Hc.out
  have hb0 : b ≠ 0 := fun e => h7 ⟨by omega, e⟩
  have q0 : (b == 0) = false := by simpa using hb0
  obtain ⟨b1, b2⟩ := hw
  clear Hc h7 h3 
  cases hn : nmB c with
  | true =>
   obtain ⟨e1, e2⟩ := H0 hn
   rw [e1, e2]
   rw [hn] at HC
   clear e1 e2 H0 H1 hn
   go_enter Tryd.func34, Tryd.ntmps34
   go_wp2_with (first
    | (go_at_call 58; first | (clear MA; refine (HA.out _).mono ?_; rintro e v1 ⟨rfl, rfl⟩) | (clear MB; refine (HB.out _).mono ?_; rintro e v2 ⟨rfl, rfl⟩) | (clear MC; refine (HC.out _).mono ?_; rintro e v3 ⟨rfl, rfl⟩)))
   go_ret2
   exact ⟨rfl, rfl⟩
  | false =>
   obtain ⟨e1, e2⟩ := H1 hn
   rw [e1, e2]
   rw [hn] at HC
   clear e1 e2 H0 H1 hn
   go_enter Tryd.func34, Tryd.ntmps34
   go_wp2_with (first
    | (go_at_call 58; first | (clear MA; refine (HA.out _).mono ?_; rintro e v1 ⟨rfl, rfl⟩) | (clear MB; refine (HB.out _).mono ?_; rintro e v2 ⟨rfl, rfl⟩) | (clear MC; refine (HC.out _).mono ?_; rintro e v3 ⟨rfl, rfl⟩)))
   go_ret2
   exact ⟨rfl, rfl⟩
 ·have e9 : a.tmod b = c := Hc.out
  have hb0 : b ≠ 0 := fun e => h7 ⟨by omega, e⟩
  have q0 : (b == 0) = false := by simpa using hb0
  obtain ⟨b1, b2⟩ := hw
  clear Hc h7 h3 
  cases hn : nmB c with
  | true =>
   obtain ⟨e1, e2⟩ := H0 hn
   rw [e1, e2]
   rw [hn] at HC
   clear e1 e2 H0 H1 hn
   go_enter Tryd.func34, Tryd.ntmps34
   go_wp2_with (first
    | (go_at_call 58; first | (clear MA; refine (HA.out _).mono ?_; rintro e v1 ⟨rfl, rfl⟩) | (clear MB; refine (HB.out _).mono ?_; rintro e v2 ⟨rfl, rfl⟩) | (clear MC; refine (HC.out _).mono ?_; rintro e v3 ⟨rfl, rfl⟩)))
   go_ret2
   exact ⟨rfl, rfl⟩
  | false =>
   obtain ⟨e1, e2⟩ := H1 hn
   rw [e1, e2]
   rw [hn] at HC
   clear e1 e2 H0 H1 hn
   go_enter Tryd.func34, Tryd.ntmps34
   go_wp2_with (first
    | (go_at_call 58; first | (clear MA; refine (HA.out _).mono ?_; rintro e v1 ⟨rfl, rfl⟩) | (clear MB; refine (HB.out _).mono ?_; rintro e v2 ⟨rfl, rfl⟩) | (clear MC; refine (HC.out _).mono ?_; rintro e v3 ⟨rfl, rfl⟩)))
   go_ret2
   exact ⟨rfl, rfl⟩
end Go.Proofs.YtemhodenkgngmaaDoor
