/-
  Stage 12: the program's Work.
-/
import Derived.Test.YtgmndjbicandfaaDoorQnnes00
import Derived.Test.YtgmndjbicandfaaDoorQnnes05
set_option maxRecDepth 100000
set_option maxHeartbeats 16000000
namespace Go.Proofs.YtgmndjbicandfaaDoor
open Go.RowKit
theorem qc9 (w : World) (k : Nat) (a b : Int) (hk : k < 256) : Calls Tryd.prog 21 #[.int .u8 (k : Int), .int .i64 a, .int .i64 b] w fun e w' => e = .returned (.tuple #[.int .i64 (wrv k a b), .int .i64 (wre k a b : Nat)]) ∧ Below w.heap.size w w' := by
 have MA : True := trivial
 have MB : True := trivial
 have MC : True := trivial
 have HA : Hid (∀ w' : World, Calls Tryd.prog 38 #[.int .i64 a] w' fun e w'' => e = .returned (.bool (nmB a)) ∧ w' = w'') := fun w' => qaw w' a
 have HB : Hid (∀ w' : World, Calls Tryd.prog 38 #[.int .i64 b] w' fun e w'' => e = .returned (.bool (nmB b)) ∧ w' = w'') := fun w' => qaw w' b
 have HO : Hid (∀ w' : World, Calls Tryd.prog 37 #[.int .u8 (k : Int)] w' fun e w'' => e = .returned (.bool (decide (3 ≤ k) && decide (k ≤ 8))) ∧ w' = w'') := fun w' => isop_any w' k hk
 have HD : Hid (∀ w' : World, Calls Tryd.prog 39 #[.int .u8 (k : Int)] w' fun e w'' => e = .returned (.bool (decide (k = 7) || decide (k = 8))) ∧ w' = w'') := fun w' => qdp w' k hk
 by_cases h3 : 3 ≤ k ∧ k ≤ 8
 case neg =>
  obtain ⟨e1, e2⟩ := wre2 (k := k) (a := a) (b := b) (fun g => h3 ⟨g.1, g.2.1⟩)
  rw [e1, e2]
  clear e1 e2
  rw [show (decide (3 ≤ k) && decide (k ≤ 8)) = false by rw [← Bool.not_eq_true, Bool.and_eq_true, decide_eq_true_eq, decide_eq_true_eq]; exact h3] at HO
  go_enter Tryd.func21, Tryd.ntmps21
  go_wp2_with (first
   | (go_at_call 38; first | (clear MA; refine (HA.out _).mono ?_; rintro e v1 ⟨rfl, rfl⟩) | (clear MB; refine (HB.out _).mono ?_; rintro e v2 ⟨rfl, rfl⟩) | (clear MC; refine (HC.out _).mono ?_; rintro e v3 ⟨rfl, rfl⟩))
   | (go_at_call 37; refine (HO.out _).mono ?_; rintro e v4 ⟨rfl, rfl⟩)
   | (go_at_call 39; refine (HD.out _).mono ?_; rintro e v5 ⟨rfl, rfl⟩)
   | (go_at_call 40; refine (qa9 _).mono ?_; rintro e w1 ⟨rfl, hb1⟩; have HB1 : Hid (Below w.heap.size w w1) := hb1; clear hb1; unfold opsV))
  go_ret2
  exact ⟨rfl, Below.refl _ _⟩
 rw [show (decide (3 ≤ k) && decide (k ≤ 8)) = true by rw [Bool.and_eq_true, decide_eq_true_eq, decide_eq_true_eq]; exact h3] at HO
 cases na : nmB a with
 | false =>
  obtain ⟨e1, e2⟩ := wre2 (k := k) (a := a) (b := b) (fun g => by rw [na] at g; cases g.2.2.1)
  rw [e1, e2]
  rw [na] at HA
  clear e1 e2
  go_enter Tryd.func21, Tryd.ntmps21
  go_wp2_with (first
   | (go_at_call 38; first | (clear MA; refine (HA.out _).mono ?_; rintro e v1 ⟨rfl, rfl⟩) | (clear MB; refine (HB.out _).mono ?_; rintro e v2 ⟨rfl, rfl⟩) | (clear MC; refine (HC.out _).mono ?_; rintro e v3 ⟨rfl, rfl⟩))
   | (go_at_call 37; refine (HO.out _).mono ?_; rintro e v4 ⟨rfl, rfl⟩)
   | (go_at_call 39; refine (HD.out _).mono ?_; rintro e v5 ⟨rfl, rfl⟩)
   | (go_at_call 40; refine (qa9 _).mono ?_; rintro e w1 ⟨rfl, hb1⟩; have HB1 : Hid (Below w.heap.size w w1) := hb1; clear hb1; unfold opsV))
  go_ret2
  exact ⟨rfl, Below.refl _ _⟩
 | true =>
 rw [na] at HA
 cases nb : nmB b with
 | false =>
  obtain ⟨e1, e2⟩ := wre2 (k := k) (a := a) (b := b) (fun g => by rw [nb] at g; cases g.2.2.2)
  rw [e1, e2]
  rw [nb] at HB
  clear e1 e2
  go_enter Tryd.func21, Tryd.ntmps21
  go_wp2_with (first
   | (go_at_call 38; first | (clear MA; refine (HA.out _).mono ?_; rintro e v1 ⟨rfl, rfl⟩) | (clear MB; refine (HB.out _).mono ?_; rintro e v2 ⟨rfl, rfl⟩) | (clear MC; refine (HC.out _).mono ?_; rintro e v3 ⟨rfl, rfl⟩))
   | (go_at_call 37; refine (HO.out _).mono ?_; rintro e v4 ⟨rfl, rfl⟩)
   | (go_at_call 39; refine (HD.out _).mono ?_; rintro e v5 ⟨rfl, rfl⟩)
   | (go_at_call 40; refine (qa9 _).mono ?_; rintro e w1 ⟨rfl, hb1⟩; have HB1 : Hid (Below w.heap.size w w1) := hb1; clear hb1; unfold opsV))
  go_ret2
  exact ⟨rfl, Below.refl _ _⟩
 | true =>
 rw [nb] at HB
 by_cases h7 : 7 ≤ k ∧ b = 0
 ·obtain ⟨e1, e2⟩ := wre5 (k := k) (a := a) (b := b) ⟨h3.1, h3.2, na, nb⟩ h7
  rw [e1, e2]
  clear e1 e2
  obtain ⟨h7, rfl⟩ := h7
  rw [show (decide (k = 7) || decide (k = 8)) = true by rw [Bool.or_eq_true, decide_eq_true_eq, decide_eq_true_eq]; omega] at HD
  go_enter Tryd.func21, Tryd.ntmps21
  go_wp2_with (first
   | (go_at_call 38; first | (clear MA; refine (HA.out _).mono ?_; rintro e v1 ⟨rfl, rfl⟩) | (clear MB; refine (HB.out _).mono ?_; rintro e v2 ⟨rfl, rfl⟩) | (clear MC; refine (HC.out _).mono ?_; rintro e v3 ⟨rfl, rfl⟩))
   | (go_at_call 37; refine (HO.out _).mono ?_; rintro e v4 ⟨rfl, rfl⟩)
   | (go_at_call 39; refine (HD.out _).mono ?_; rintro e v5 ⟨rfl, rfl⟩)
   | (go_at_call 40; refine (qa9 _).mono ?_; rintro e w1 ⟨rfl, hb1⟩; have HB1 : Hid (Below w.heap.size w w1) := hb1; clear hb1; unfold opsV))
  go_ret2
  exact ⟨rfl, Below.refl _ _⟩
 have hw := wop_wide (k := k) na nb
 obtain ⟨c, Hc⟩ : ∃ c, Hid (wop k a b = c) := ⟨_, rfl⟩
 have HC : Hid (∀ w' : World, Calls Tryd.prog 38 #[.int .i64 c] w' fun e w'' => e = .returned (.bool (nmB c)) ∧ w' = w'') := fun w' => qaw w' c
 have H0 := fun hn => wre0 (k := k) (a := a) (b := b) ⟨h3.1, h3.2, na, nb⟩ h7 Hc.out hn
 have H1 := fun hn => wre120 (k := k) (a := a) (b := b) ⟨h3.1, h3.2, na, nb⟩ h7 Hc.out hn
 rw [Hc.out] at hw
 have hk6 : k = 3 ∨ k = 4 ∨ k = 5 ∨ k = 6 ∨ k = 7 ∨ k = 8 := by omega
 clear na nb
 rcases hk6 with rfl | rfl | rfl | rfl | rfl | rfl
 ·have e9 : -a = c := Hc.out
  have HX : Hid (∀ w' : World, Calls Tryd.prog 52 #[.int .i64 a, .int .i64 b] w' fun e w'' => e = .returned (.int .i64 c) ∧ w' = w'') := fun w' => by rw [← e9]; exact op1_any w' a b (by rw [e9]; exact hw.1) (by rw [e9]; exact hw.2)
  rw [show (decide (3 = 7) || decide (3 = 8)) = false from rfl] at HD
  have hix := idx12_1
  clear Hc h7 h3 e9 hw
  cases hn : nmB c with
  | true =>
   obtain ⟨e1, e2⟩ := H0 hn
   rw [e1, e2]
   rw [hn] at HC
   clear e1 e2 H0 H1 hn
   go_enter Tryd.func21, Tryd.ntmps21
   go_wp2_with (first
    | (go_at_call 38; first | (clear MA; refine (HA.out _).mono ?_; rintro e v1 ⟨rfl, rfl⟩) | (clear MB; refine (HB.out _).mono ?_; rintro e v2 ⟨rfl, rfl⟩) | (clear MC; refine (HC.out _).mono ?_; rintro e v3 ⟨rfl, rfl⟩))
    | (go_at_call 37; refine (HO.out _).mono ?_; rintro e v4 ⟨rfl, rfl⟩)
    | (go_at_call 39; refine (HD.out _).mono ?_; rintro e v5 ⟨rfl, rfl⟩)
    | (go_at_call 40; refine (qa9 _).mono ?_; rintro e w1 ⟨rfl, hb1⟩; have HB1 : Hid (Below w.heap.size w w1) := hb1; clear hb1; unfold opsV)
    | (go_at_call 52; refine (HX.out _).mono ?_; rintro e v6 ⟨rfl, rfl⟩))
   go_ret2
   exact ⟨rfl, HB1.out⟩
  | false =>
   obtain ⟨e1, e2⟩ := H1 hn
   rw [e1, e2]
   rw [hn] at HC
   clear e1 e2 H0 H1 hn
   go_enter Tryd.func21, Tryd.ntmps21
   go_wp2_with (first
    | (go_at_call 38; first | (clear MA; refine (HA.out _).mono ?_; rintro e v1 ⟨rfl, rfl⟩) | (clear MB; refine (HB.out _).mono ?_; rintro e v2 ⟨rfl, rfl⟩) | (clear MC; refine (HC.out _).mono ?_; rintro e v3 ⟨rfl, rfl⟩))
    | (go_at_call 37; refine (HO.out _).mono ?_; rintro e v4 ⟨rfl, rfl⟩)
    | (go_at_call 39; refine (HD.out _).mono ?_; rintro e v5 ⟨rfl, rfl⟩)
    | (go_at_call 40; refine (qa9 _).mono ?_; rintro e w1 ⟨rfl, hb1⟩; have HB1 : Hid (Below w.heap.size w w1) := hb1; clear hb1; unfold opsV)
    | (go_at_call 52; refine (HX.out _).mono ?_; rintro e v6 ⟨rfl, rfl⟩))
   go_ret2
   exact ⟨rfl, HB1.out⟩
 ·have e9 : a + b = c := Hc.out
  have HX : Hid (∀ w' : World, Calls Tryd.prog 53 #[.int .i64 a, .int .i64 b] w' fun e w'' => e = .returned (.int .i64 c) ∧ w' = w'') := fun w' => by rw [← e9]; exact op2_any w' a b (by rw [e9]; exact hw.1) (by rw [e9]; exact hw.2)
  rw [show (decide (4 = 7) || decide (4 = 8)) = false from rfl] at HD
  have hix := idx12_2
  clear Hc h7 h3 e9 hw
  cases hn : nmB c with
  | true =>
   obtain ⟨e1, e2⟩ := H0 hn
   rw [e1, e2]
   rw [hn] at HC
   clear e1 e2 H0 H1 hn
   go_enter Tryd.func21, Tryd.ntmps21
   go_wp2_with (first
    | (go_at_call 38; first | (clear MA; refine (HA.out _).mono ?_; rintro e v1 ⟨rfl, rfl⟩) | (clear MB; refine (HB.out _).mono ?_; rintro e v2 ⟨rfl, rfl⟩) | (clear MC; refine (HC.out _).mono ?_; rintro e v3 ⟨rfl, rfl⟩))
    | (go_at_call 37; refine (HO.out _).mono ?_; rintro e v4 ⟨rfl, rfl⟩)
    | (go_at_call 39; refine (HD.out _).mono ?_; rintro e v5 ⟨rfl, rfl⟩)
    | (go_at_call 40; refine (qa9 _).mono ?_; rintro e w1 ⟨rfl, hb1⟩; have HB1 : Hid (Below w.heap.size w w1) := hb1; clear hb1; unfold opsV)
    | (go_at_call 53; refine (HX.out _).mono ?_; rintro e v6 ⟨rfl, rfl⟩))
   go_ret2
   exact ⟨rfl, HB1.out⟩
  | false =>
   obtain ⟨e1, e2⟩ := H1 hn
   rw [e1, e2]
   rw [hn] at HC
   clear e1 e2 H0 H1 hn
   go_enter Tryd.func21, Tryd.ntmps21
   go_wp2_with (first
    | (go_at_call 38; first | (clear MA; refine (HA.out _).mono ?_; rintro e v1 ⟨rfl, rfl⟩) | (clear MB; refine (HB.out _).mono ?_; rintro e v2 ⟨rfl, rfl⟩) | (clear MC; refine (HC.out _).mono ?_; rintro e v3 ⟨rfl, rfl⟩))
    | (go_at_call 37; refine (HO.out _).mono ?_; rintro e v4 ⟨rfl, rfl⟩)
    | (go_at_call 39; refine (HD.out _).mono ?_; rintro e v5 ⟨rfl, rfl⟩)
    | (go_at_call 40; refine (qa9 _).mono ?_; rintro e w1 ⟨rfl, hb1⟩; have HB1 : Hid (Below w.heap.size w w1) := hb1; clear hb1; unfold opsV)
    | (go_at_call 53; refine (HX.out _).mono ?_; rintro e v6 ⟨rfl, rfl⟩))
   go_ret2
   exact ⟨rfl, HB1.out⟩
 ·have e9 : a - b = c := Hc.out
  have HX : Hid (∀ w' : World, Calls Tryd.prog 54 #[.int .i64 a, .int .i64 b] w' fun e w'' => e = .returned (.int .i64 c) ∧ w' = w'') := fun w' => by rw [← e9]; exact op3_any w' a b (by rw [e9]; exact hw.1) (by rw [e9]; exact hw.2)
  rw [show (decide (5 = 7) || decide (5 = 8)) = false from rfl] at HD
  have hix := idx12_3
  clear Hc h7 h3 e9 hw
  cases hn : nmB c with
  | true =>
   obtain ⟨e1, e2⟩ := H0 hn
   rw [e1, e2]
   rw [hn] at HC
   clear e1 e2 H0 H1 hn
   go_enter Tryd.func21, Tryd.ntmps21
   go_wp2_with (first
    | (go_at_call 38; first | (clear MA; refine (HA.out _).mono ?_; rintro e v1 ⟨rfl, rfl⟩) | (clear MB; refine (HB.out _).mono ?_; rintro e v2 ⟨rfl, rfl⟩) | (clear MC; refine (HC.out _).mono ?_; rintro e v3 ⟨rfl, rfl⟩))
    | (go_at_call 37; refine (HO.out _).mono ?_; rintro e v4 ⟨rfl, rfl⟩)
    | (go_at_call 39; refine (HD.out _).mono ?_; rintro e v5 ⟨rfl, rfl⟩)
    | (go_at_call 40; refine (qa9 _).mono ?_; rintro e w1 ⟨rfl, hb1⟩; have HB1 : Hid (Below w.heap.size w w1) := hb1; clear hb1; unfold opsV)
    | (go_at_call 54; refine (HX.out _).mono ?_; rintro e v6 ⟨rfl, rfl⟩))
   go_ret2
   exact ⟨rfl, HB1.out⟩
  | false =>
   obtain ⟨e1, e2⟩ := H1 hn
   rw [e1, e2]
   rw [hn] at HC
   clear e1 e2 H0 H1 hn
   go_enter Tryd.func21, Tryd.ntmps21
   go_wp2_with (first
    | (go_at_call 38; first | (clear MA; refine (HA.out _).mono ?_; rintro e v1 ⟨rfl, rfl⟩) | (clear MB; refine (HB.out _).mono ?_; rintro e v2 ⟨rfl, rfl⟩) | (clear MC; refine (HC.out _).mono ?_; rintro e v3 ⟨rfl, rfl⟩))
    | (go_at_call 37; refine (HO.out _).mono ?_; rintro e v4 ⟨rfl, rfl⟩)
    | (go_at_call 39; refine (HD.out _).mono ?_; rintro e v5 ⟨rfl, rfl⟩)
    | (go_at_call 40; refine (qa9 _).mono ?_; rintro e w1 ⟨rfl, hb1⟩; have HB1 : Hid (Below w.heap.size w w1) := hb1; clear hb1; unfold opsV)
    | (go_at_call 54; refine (HX.out _).mono ?_; rintro e v6 ⟨rfl, rfl⟩))
   go_ret2
   exact ⟨rfl, HB1.out⟩
 ·have e9 : a * b = c := Hc.out
  have HX : Hid (∀ w' : World, Calls Tryd.prog 55 #[.int .i64 a, .int .i64 b] w' fun e w'' => e = .returned (.int .i64 c) ∧ w' = w'') := fun w' => by rw [← e9]; exact op4_any w' a b (by rw [e9]; exact hw.1) (by rw [e9]; exact hw.2)
  rw [show (decide (6 = 7) || decide (6 = 8)) = false from rfl] at HD
  have hix := idx12_4
  clear Hc h7 h3 e9 hw
  cases hn : nmB c with
  | true =>
   obtain ⟨e1, e2⟩ := H0 hn
   rw [e1, e2]
   rw [hn] at HC
   clear e1 e2 H0 H1 hn
   go_enter Tryd.func21, Tryd.ntmps21
   go_wp2_with (first
    | (go_at_call 38; first | (clear MA; refine (HA.out _).mono ?_; rintro e v1 ⟨rfl, rfl⟩) | (clear MB; refine (HB.out _).mono ?_; rintro e v2 ⟨rfl, rfl⟩) | (clear MC; refine (HC.out _).mono ?_; rintro e v3 ⟨rfl, rfl⟩))
    | (go_at_call 37; refine (HO.out _).mono ?_; rintro e v4 ⟨rfl, rfl⟩)
    | (go_at_call 39; refine (HD.out _).mono ?_; rintro e v5 ⟨rfl, rfl⟩)
    | (go_at_call 40; refine (qa9 _).mono ?_; rintro e w1 ⟨rfl, hb1⟩; have HB1 : Hid (Below w.heap.size w w1) := hb1; clear hb1; unfold opsV)
    | (go_at_call 55; refine (HX.out _).mono ?_; rintro e v6 ⟨rfl, rfl⟩))
   go_ret2
   exact ⟨rfl, HB1.out⟩
  | false =>
   obtain ⟨e1, e2⟩ := H1 hn
   rw [e1, e2]
   rw [hn] at HC
   clear e1 e2 H0 H1 hn
   go_enter Tryd.func21, Tryd.ntmps21
   go_wp2_with (first
    | (go_at_call 38; first | (clear MA; refine (HA.out _).mono ?_; rintro e v1 ⟨rfl, rfl⟩) | (clear MB; refine (HB.out _).mono ?_; rintro e v2 ⟨rfl, rfl⟩) | (clear MC; refine (HC.out _).mono ?_; rintro e v3 ⟨rfl, rfl⟩))
    | (go_at_call 37; refine (HO.out _).mono ?_; rintro e v4 ⟨rfl, rfl⟩)
    | (go_at_call 39; refine (HD.out _).mono ?_; rintro e v5 ⟨rfl, rfl⟩)
    | (go_at_call 40; refine (qa9 _).mono ?_; rintro e w1 ⟨rfl, hb1⟩; have HB1 : Hid (Below w.heap.size w w1) := hb1; clear hb1; unfold opsV)
    | (go_at_call 55; refine (HX.out _).mono ?_; rintro e v6 ⟨rfl, rfl⟩))
   go_ret2
   exact ⟨rfl, HB1.out⟩
 ·have e9 : a.tdiv b = c := Hc.out
  have hb0 : b ≠ 0 := fun e => h7 ⟨by omega, e⟩
  have q0 : (b == 0) = false := by simpa using hb0
  have HX : Hid (∀ w' : World, Calls Tryd.prog 56 #[.int .i64 a, .int .i64 b] w' fun e w'' => e = .returned (.int .i64 c) ∧ w' = w'') := fun w' => by rw [← e9]; exact op5_any w' a b (by rw [e9]; exact hw.1) (by rw [e9]; exact hw.2) hb0
  rw [show (decide (7 = 7) || decide (7 = 8)) = true from rfl] at HD
  have hix := idx12_5
  clear Hc h7 h3 hb0 e9 hw
  cases hn : nmB c with
  | true =>
   obtain ⟨e1, e2⟩ := H0 hn
   rw [e1, e2]
   rw [hn] at HC
   clear e1 e2 H0 H1 hn
   go_enter Tryd.func21, Tryd.ntmps21
   go_wp2_with (first
    | (go_at_call 38; first | (clear MA; refine (HA.out _).mono ?_; rintro e v1 ⟨rfl, rfl⟩) | (clear MB; refine (HB.out _).mono ?_; rintro e v2 ⟨rfl, rfl⟩) | (clear MC; refine (HC.out _).mono ?_; rintro e v3 ⟨rfl, rfl⟩))
    | (go_at_call 37; refine (HO.out _).mono ?_; rintro e v4 ⟨rfl, rfl⟩)
    | (go_at_call 39; refine (HD.out _).mono ?_; rintro e v5 ⟨rfl, rfl⟩)
    | (go_at_call 40; refine (qa9 _).mono ?_; rintro e w1 ⟨rfl, hb1⟩; have HB1 : Hid (Below w.heap.size w w1) := hb1; clear hb1; unfold opsV)
    | (go_at_call 56; refine (HX.out _).mono ?_; rintro e v6 ⟨rfl, rfl⟩))
   go_ret2
   exact ⟨rfl, HB1.out⟩
  | false =>
   obtain ⟨e1, e2⟩ := H1 hn
   rw [e1, e2]
   rw [hn] at HC
   clear e1 e2 H0 H1 hn
   go_enter Tryd.func21, Tryd.ntmps21
   go_wp2_with (first
    | (go_at_call 38; first | (clear MA; refine (HA.out _).mono ?_; rintro e v1 ⟨rfl, rfl⟩) | (clear MB; refine (HB.out _).mono ?_; rintro e v2 ⟨rfl, rfl⟩) | (clear MC; refine (HC.out _).mono ?_; rintro e v3 ⟨rfl, rfl⟩))
    | (go_at_call 37; refine (HO.out _).mono ?_; rintro e v4 ⟨rfl, rfl⟩)
    | (go_at_call 39; refine (HD.out _).mono ?_; rintro e v5 ⟨rfl, rfl⟩)
    | (go_at_call 40; refine (qa9 _).mono ?_; rintro e w1 ⟨rfl, hb1⟩; have HB1 : Hid (Below w.heap.size w w1) := hb1; clear hb1; unfold opsV)
    | (go_at_call 56; refine (HX.out _).mono ?_; rintro e v6 ⟨rfl, rfl⟩))
   go_ret2
   exact ⟨rfl, HB1.out⟩
 ·have e9 : a.tmod b = c := Hc.out
  have hb0 : b ≠ 0 := fun e => h7 ⟨by omega, e⟩
  have q0 : (b == 0) = false := by simpa using hb0
  have HX : Hid (∀ w' : World, Calls Tryd.prog 57 #[.int .i64 a, .int .i64 b] w' fun e w'' => e = .returned (.int .i64 c) ∧ w' = w'') := fun w' => by rw [← e9]; exact op6_any w' a b (by rw [e9]; exact hw.1) (by rw [e9]; exact hw.2) hb0
  rw [show (decide (8 = 7) || decide (8 = 8)) = true from rfl] at HD
  have hix := idx12_6
  clear Hc h7 h3 hb0 e9 hw
  cases hn : nmB c with
  | true =>
   obtain ⟨e1, e2⟩ := H0 hn
   rw [e1, e2]
   rw [hn] at HC
   clear e1 e2 H0 H1 hn
   go_enter Tryd.func21, Tryd.ntmps21
   go_wp2_with (first
    | (go_at_call 38; first | (clear MA; refine (HA.out _).mono ?_; rintro e v1 ⟨rfl, rfl⟩) | (clear MB; refine (HB.out _).mono ?_; rintro e v2 ⟨rfl, rfl⟩) | (clear MC; refine (HC.out _).mono ?_; rintro e v3 ⟨rfl, rfl⟩))
    | (go_at_call 37; refine (HO.out _).mono ?_; rintro e v4 ⟨rfl, rfl⟩)
    | (go_at_call 39; refine (HD.out _).mono ?_; rintro e v5 ⟨rfl, rfl⟩)
    | (go_at_call 40; refine (qa9 _).mono ?_; rintro e w1 ⟨rfl, hb1⟩; have HB1 : Hid (Below w.heap.size w w1) := hb1; clear hb1; unfold opsV)
    | (go_at_call 57; refine (HX.out _).mono ?_; rintro e v6 ⟨rfl, rfl⟩))
   go_ret2
   exact ⟨rfl, HB1.out⟩
  | false =>
   obtain ⟨e1, e2⟩ := H1 hn
   rw [e1, e2]
   rw [hn] at HC
   clear e1 e2 H0 H1 hn
   go_enter Tryd.func21, Tryd.ntmps21
   go_wp2_with (first
    | (go_at_call 38; first | (clear MA; refine (HA.out _).mono ?_; rintro e v1 ⟨rfl, rfl⟩) | (clear MB; refine (HB.out _).mono ?_; rintro e v2 ⟨rfl, rfl⟩) | (clear MC; refine (HC.out _).mono ?_; rintro e v3 ⟨rfl, rfl⟩))
    | (go_at_call 37; refine (HO.out _).mono ?_; rintro e v4 ⟨rfl, rfl⟩)
    | (go_at_call 39; refine (HD.out _).mono ?_; rintro e v5 ⟨rfl, rfl⟩)
    | (go_at_call 40; refine (qa9 _).mono ?_; rintro e w1 ⟨rfl, hb1⟩; have HB1 : Hid (Below w.heap.size w w1) := hb1; clear hb1; unfold opsV)
    | (go_at_call 57; refine (HX.out _).mono ?_; rintro e v6 ⟨rfl, rfl⟩))
   go_ret2
   exact ⟨rfl, HB1.out⟩
end Go.Proofs.YtgmndjbicandfaaDoor
