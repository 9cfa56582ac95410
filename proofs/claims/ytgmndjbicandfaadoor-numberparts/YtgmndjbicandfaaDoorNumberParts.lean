/-
  Proved: for all 32-bit numbers a and b the program's quotient times the divisor and its rest is what was divided, the rest is nearer to 0 than the divisor and has the sign of what was divided, and a difference and what was taken off is the first again, or their errors (P12.1); no condition.
-/
import Derived.Test.YtgmndjbicandfaaDoorN1j
import Derived.Test.YtgmndjbicandfaaDoorTie
import Derived.Test.YtgmndjbicandfaaDoorCards
import Derived.Test.YtgmndjbicandfaaDoorN1c
import Derived.Lib.MinMax
import Derived.WalkKit
import Derived.SizedLaws
import Derived.ProofKit
import Derived.LaidMore
import Derived.OpenShut
import Derived.ShutString
import Derived.ChangeOld
import Derived.Below
import Derived.Stop.Joined
import Derived.SevenTiedAt
import Derived.Lib.SmallJoins
import Derived.Lib.LaidTab
import Derived.MakeChecks
import Derived.Handed
import Derived.Stop.LaidErr
namespace Go.Proofs.YtgmndjbicandfaaDoor.numberParts
open Go.ChangeShapes Go.WideShapes Go.ChangeAt Go.RowKit Go.Joins
set_option linter.unusedVariables false
theorem own : ownKnob Tryd.prog.godebug = none := by kernel_rfl
theorem laidOut : laidOutB Tryd.prog = true := by kernel_rfl
/-- What the listed variables hold. -/
def laidL : List (String × DataW Unit) := [("recoup/token.words", Rows.laid_recoup_token_words)]
theorem door_met (os : Os) (args : Array Value) : laidMetH Tryd.prog laidL ((World.doorLaid Tryd.prog 4000 os).forCall (fun _ _ => 0) ⟨#[], args, []⟩).memory :=
  laidMetH_of_parts3 (fuel := 8) (laidMet_of_run' 8 (by kernel_rfl) (by kernel_rfl)) (by kernel_rfl) (by kernel_rfl)
theorem gWds : Tryd.prog.globalNamed "recoup/token.words" = some 0 := by kernel_rfl
theorem tWds : (Tryd.prog.globals[0]?).map (·.type) = some 117 := by kernel_rfl
theorem dWds : (Rows.laid_recoup_token_words : DataW Unit) = .agg ((wds.map fun x => x.data.toList).map fun z => .lit (.string z)) := by kernel_rfl
theorem of_words {W : World} (h : laidMet Tryd.prog laidL W) : Wt9 W := by
  have hk := h
  obtain ⟨ps, ⟨g0, t0, cs0, f0, p0, q0, hg0, ht0, hv0, hd0, _, _⟩, _, _⟩ := hk
  obtain rfl := Option.some.inj (gWds.symm.trans hg0)
  obtain rfl := Option.some.inj (tWds.symm.trans ht0)
  rw [dWds] at hd0
  have hc := cells_of_texts Tryd.underlying117 Tryd.underlying9 (by kernel_rfl) (by kernel_rfl) hd0
  unfold Wt9
  rw [hv0]
  obtain ⟨l⟩ := cs0
  have hl : l = wds.map Value.string := hc.trans (by kernel_rfl)
  rw [hl]
theorem i32_of_wf12 {n : Int} (h : (Lit.int .i32 n).wf = true) : -2147483648 ≤ n ∧ n ≤ 2147483647 := by
  simp [Lit.wf, IntKind.min, IntKind.max, IntKind.signed, IntKind.bits] at h
  exact ⟨by omega, by omega⟩
/-- What is known of a quotient and a rest. -/
theorem parts12 {x y : Int} (hx : nmB x = true) (hy : nmB y = true) (h0 : y ≠ 0) : ∃ q r p : Int, x.tdiv y = q ∧ x.tmod y = r ∧ q * y = p ∧ nmB q = true ∧ nmB r = true ∧ nmB p = true ∧ p + r = x ∧ r < max y (-y) ∧ -r < max y (-y) ∧ (r = 0 ∨ (decide (r < 0) = decide (x < 0))) := by
  obtain ⟨x1, x2⟩ := nm_iff.1 hx
  obtain ⟨y1, y2⟩ := nm_iff.1 hy
  have hq : (x.tdiv y).natAbs = x.natAbs / y.natAbs := Int.natAbs_tdiv x y
  have hr : (x.tmod y).natAbs = x.natAbs % y.natAbs := Int.natAbs_tmod x y
  have hq2 : x.natAbs / y.natAbs ≤ x.natAbs := Nat.div_le_self _ _
  have hr2 : x.natAbs % y.natAbs < y.natAbs := Nat.mod_lt _ (by omega)
  have hr3 : x.natAbs % y.natAbs ≤ x.natAbs := Nat.mod_le _ _
  have he : x.tdiv y * y + x.tmod y = x := Int.tdiv_mul_add_tmod x y
  have hp : (x.tdiv y * y).natAbs ≤ x.natAbs := by
    rw [Int.natAbs_mul, hq]
    exact Nat.div_mul_le_self _ _
  refine ⟨x.tdiv y, x.tmod y, x.tdiv y * y, rfl, rfl, rfl, nm_iff.2 (by omega), nm_iff.2 (by omega), nm_iff.2 (by omega), he, by omega, by omega, ?_⟩
  rcases Int.lt_or_le x 0 with g | g
  · have h := Int.tmod_nonneg (a := -x) y (by omega)
    rw [Int.neg_tmod] at h
    by_cases e : x.tmod y = 0
    · exact .inl e
    · exact .inr (by rw [decide_eq_true g, decide_eq_true (by omega)])
  · have h := Int.tmod_nonneg (a := x) y g
    exact .inr (by rw [decide_eq_false (by omega), decide_eq_false (by omega)])
set_option maxRecDepth 20000 in
set_option maxHeartbeats 4000000 in
theorem walk (n0 : Int) (n1 : Int) (w : World) (w0 : (Lit.int .i32 n0).wf = true) (w1 : (Lit.int .i32 n1).wf = true) (t1 : Wt9 w) :
    Calls Tryd.prog 7 #[.int .i32 n0, .int .i32 n1] w fun e w' => e = .returned (.bool true) ∧ Below w.heap.size w w' := by
  obtain ⟨x1, x2⟩ := i32_of_wf12 w0
  obtain ⟨y1, y2⟩ := i32_of_wf12 w1
  clear w0 w1
  have HAn : Hid (∀ w' : World, Below w.heap.size w w' → Calls Tryd.prog 17 #[] w' fun e w'' => e = .returned (.bool true) ∧ Below w'.heap.size w' w'') := fun w' hb => anch12_any w' (t1.later hb)
  clear t1
  have HNx : Hid (∀ w' : World, Calls Tryd.prog 20 #[.int .i64 n0] w' fun e w'' => e = .returned (.bool (nmB n0)) ∧ w' = w'') := fun w' => rnum_any w' n0
  have HNy : Hid (∀ w' : World, Calls Tryd.prog 20 #[.int .i64 n1] w' fun e w'' => e = .returned (.bool (nmB n1)) ∧ w' = w'') := fun w' => rnum_any w' n1
  have HWk : Hid (∀ (w' : World) (k : Nat) (a b : Int), k < 256 → Calls Tryd.prog 21 #[.int .u8 (k : Int), .int .i64 a, .int .i64 b] w' fun e w'' => e = .returned (.tuple #[.int .i64 (wrv k a b), .int .i64 (wre k a b : Nat)]) ∧ Below w'.heap.size w' w'') := fun w' k a b hk => pwork_any w' k a b hk
  have MX : True := trivial
  have MY : True := trivial
  have M7 : True := trivial
  have M8 : True := trivial
  have M6 : True := trivial
  have M4 : True := trivial
  have M5 : True := trivial
  by_cases hnum : nmB n0 = true ∧ nmB n1 = true
  case neg =>
    have e2 := wre2 (k := 4) (a := n0) (b := n1) (fun g => hnum ⟨g.2.2.1, g.2.2.2⟩)
    have H4 : Hid (∀ w' : World, Calls Tryd.prog 21 #[.int .u8 4, .int .i64 n0, .int .i64 n1] w' fun e w'' => e = .returned (.tuple #[.int .i64 0, .int .i64 2]) ∧ Below w'.heap.size w' w'') := fun w' => by
      have h := HWk.out w' 4 n0 n1 (by omega)
      rw [e2.1, e2.2] at h
      exact h
    clear HWk e2
    cases hx : nmB n0 with
    | false =>
      rw [hx] at HNx
      clear hnum hx
      go_enter Tryd.func7, Tryd.ntmps7
      go_wp2_with (first
        | (go_at_call 20; clear MX; refine (HNx.out _).mono ?_; rintro e v1 ⟨rfl, rfl⟩)
        | (go_at_call 21; refine (H4.out _).mono ?_; rintro e w1 ⟨rfl, hb1⟩; have HB1 := jhid9 hb1; clear hb1)
        | (go_at_call 17; refine (HAn.out _ HB1.out).mono ?_; rintro e w2 ⟨rfl, hb2⟩; have HB2 := jhid9 (jtwo HB1.out hb2); clear hb2))
      go_ret
      exact ⟨rfl, HB2.out⟩
    | true =>
      have hy : nmB n1 = false := by rw [← Bool.not_eq_true]; exact fun g => hnum ⟨hx, g⟩
      rw [hx] at HNx
      rw [hy] at HNy
      clear hnum hx hy
      go_enter Tryd.func7, Tryd.ntmps7
      go_wp2_with (first
        | (go_at_call 20; clear MX; refine (HNx.out _).mono ?_; rintro e v1 ⟨rfl, rfl⟩)
        | (go_at_call 20; clear MY; refine (HNy.out _).mono ?_; rintro e v2 ⟨rfl, rfl⟩)
        | (go_at_call 21; refine (H4.out _).mono ?_; rintro e w1 ⟨rfl, hb1⟩; have HB1 := jhid9 hb1; clear hb1)
        | (go_at_call 17; refine (HAn.out _ HB1.out).mono ?_; rintro e w2 ⟨rfl, hb2⟩; have HB2 := jhid9 (jtwo HB1.out hb2); clear hb2))
      go_ret
      exact ⟨rfl, HB2.out⟩
  obtain ⟨hx, hy⟩ := hnum
  rw [hx] at HNx
  rw [hy] at HNy
  by_cases h0 : n1 = 0
  · have e7 := wre5 (k := 7) (a := n0) (b := n1) ⟨by omega, by omega, hx, hy⟩ ⟨by omega, h0⟩
    have e8 := wre5 (k := 8) (a := n0) (b := n1) ⟨by omega, by omega, hx, hy⟩ ⟨by omega, h0⟩
    subst h0
    have H7 : Hid (∀ w' : World, Calls Tryd.prog 21 #[.int .u8 7, .int .i64 n0, .int .i64 0] w' fun e w'' => e = .returned (.tuple #[.int .i64 0, .int .i64 5]) ∧ Below w'.heap.size w' w'') := fun w' => by
      have h := HWk.out w' 7 n0 0 (by omega)
      rw [e7.1, e7.2] at h
      exact h
    have H8 : Hid (∀ w' : World, Calls Tryd.prog 21 #[.int .u8 8, .int .i64 n0, .int .i64 0] w' fun e w'' => e = .returned (.tuple #[.int .i64 0, .int .i64 5]) ∧ Below w'.heap.size w' w'') := fun w' => by
      have h := HWk.out w' 8 n0 0 (by omega)
      rw [e8.1, e8.2] at h
      exact h
    clear HWk e7 e8 hx hy
    go_enter Tryd.func7, Tryd.ntmps7
    go_wp2_with (first
      | (go_at_call 20; clear MX; refine (HNx.out _).mono ?_; rintro e v1 ⟨rfl, rfl⟩)
      | (go_at_call 20; clear MY; refine (HNy.out _).mono ?_; rintro e v2 ⟨rfl, rfl⟩)
      | (go_at_call 21; clear M7; refine (H7.out _).mono ?_; rintro e w1 ⟨rfl, hb1⟩; have HB1 := jhid9 hb1; clear hb1)
      | (go_at_call 21; clear M8; refine (H8.out _).mono ?_; rintro e w2 ⟨rfl, hb2⟩; have HB2 := jhid9 (jtwo HB1.out hb2); clear hb2)
      | (go_at_call 17; refine (HAn.out _ HB2.out).mono ?_; rintro e w3 ⟨rfl, hb3⟩; have HB3 := jhid9 (jtwo HB2.out hb3); clear hb3))
    go_ret
    exact ⟨rfl, HB3.out⟩
  obtain ⟨q, r, p, hq, hr, hp, nq, nr, np, hpr, hm1, hm2, hrs⟩ := parts12 hx hy h0
  have e7 := wre0 (k := 7) (a := n0) (b := n1) ⟨by omega, by omega, hx, hy⟩ (fun g => h0 g.2) hq nq
  have e8 := wre0 (k := 8) (a := n0) (b := n1) ⟨by omega, by omega, hx, hy⟩ (fun g => h0 g.2) hr nr
  have e6 := wre0 (k := 6) (a := q) (b := n1) ⟨by omega, by omega, nq, hy⟩ (fun g => by omega) hp np
  have e4 := wre0 (k := 4) (a := p) (b := r) ⟨by omega, by omega, np, nr⟩ (fun g => by omega) hpr hx
  obtain ⟨d, hd⟩ : ∃ d, n0 - n1 = d := ⟨_, rfl⟩
  obtain ⟨dv, j, e5, hj⟩ : ∃ (dv : Int) (j : Nat), (wre 5 n0 n1 = j ∧ wrv 5 n0 n1 = dv) ∧ (j = 120 ∨ j = 0 ∧ dv = d) := by
    cases nd : nmB d with
    | true => exact ⟨d, 0, wre0 (k := 5) ⟨by omega, by omega, hx, hy⟩ (fun g => by omega) hd nd, .inr ⟨rfl, rfl⟩⟩
    | false => exact ⟨0, 120, wre120 (k := 5) ⟨by omega, by omega, hx, hy⟩ (fun g => by omega) hd nd, .inl rfl⟩
  have H7 : Hid (∀ w' : World, Calls Tryd.prog 21 #[.int .u8 7, .int .i64 n0, .int .i64 n1] w' fun e w'' => e = .returned (.tuple #[.int .i64 q, .int .i64 0]) ∧ Below w'.heap.size w' w'') := fun w' => by
    have h := HWk.out w' 7 n0 n1 (by omega)
    rw [e7.1, e7.2] at h
    exact h
  have H8 : Hid (∀ w' : World, Calls Tryd.prog 21 #[.int .u8 8, .int .i64 n0, .int .i64 n1] w' fun e w'' => e = .returned (.tuple #[.int .i64 r, .int .i64 0]) ∧ Below w'.heap.size w' w'') := fun w' => by
    have h := HWk.out w' 8 n0 n1 (by omega)
    rw [e8.1, e8.2] at h
    exact h
  have H6 : Hid (∀ w' : World, Calls Tryd.prog 21 #[.int .u8 6, .int .i64 q, .int .i64 n1] w' fun e w'' => e = .returned (.tuple #[.int .i64 p, .int .i64 0]) ∧ Below w'.heap.size w' w'') := fun w' => by
    have h := HWk.out w' 6 q n1 (by omega)
    rw [e6.1, e6.2] at h
    exact h
  have H4 : Hid (∀ w' : World, Calls Tryd.prog 21 #[.int .u8 4, .int .i64 p, .int .i64 r] w' fun e w'' => e = .returned (.tuple #[.int .i64 n0, .int .i64 0]) ∧ Below w'.heap.size w' w'') := fun w' => by
    have h := HWk.out w' 4 p r (by omega)
    rw [e4.1, e4.2] at h
    exact h
  have H5 : Hid (∀ w' : World, Calls Tryd.prog 21 #[.int .u8 5, .int .i64 n0, .int .i64 n1] w' fun e w'' => e = .returned (.tuple #[.int .i64 dv, .int .i64 (j : Int)]) ∧ Below w'.heap.size w' w'') := fun w' => by
    have h := HWk.out w' 5 n0 n1 (by omega)
    rw [e5.1, e5.2] at h
    exact h
  obtain ⟨m, hmx⟩ : ∃ m, max n1 (-n1) = m := ⟨_, rfl⟩
  rw [hmx] at hm1 hm2
  have q1 : decide (r < m) = true := decide_eq_true hm1
  have q2 : decide (-r < m) = true := decide_eq_true hm2
  have q0 : (n1 == 0) = false := by simpa using h0
  obtain ⟨rb1, rb2⟩ := nm_iff.1 nr
  have hdb : d + n1 = n0 := by omega
  have hdw : -9000000000 ≤ d ∧ d ≤ 9000000000 := by omega
  obtain ⟨dw1, dw2⟩ := hdw
  have hdq : (d + n1 == n0) = true := by rw [hdb]; exact beq_self_eq_true _
  clear HWk e7 e8 e6 e4 e5 hx hy hq hr hp nq nr np hpr hd h0 hm1 hm2
  rcases hrs with hr0 | hrs
  · subst hr0
    rcases hj with rfl | ⟨rfl, rfl⟩
    · clear hdb hdq
      go_enter Tryd.func7, Tryd.ntmps7
      go_wp2_with (first
            | (go_at_call 20; clear MX; refine (HNx.out _).mono ?_; rintro e v1 ⟨rfl, rfl⟩)
            | (go_at_call 20; clear MY; refine (HNy.out _).mono ?_; rintro e v2 ⟨rfl, rfl⟩)
            | (go_at_call 21; clear M7; refine (H7.out _).mono ?_; rintro e w1 ⟨rfl, hb1⟩; have HB1 := jhid9 hb1; clear hb1)
            | (go_at_call 21; clear M8; refine (H8.out _).mono ?_; rintro e w2 ⟨rfl, hb2⟩; have HB2 := jhid9 (jtwo HB1.out hb2); clear hb2)
            | (go_at_call 21; clear M6; refine (H6.out _).mono ?_; rintro e w3 ⟨rfl, hb3⟩; have HB3 := jhid9 (jtwo HB2.out hb3); clear hb3)
            | (go_at_call 21; clear M4; refine (H4.out _).mono ?_; rintro e w4 ⟨rfl, hb4⟩; have HB4 := jhid9 (jtwo HB3.out hb4); clear hb4)
            | (go_at_call 21; clear M5; refine (H5.out _).mono ?_; rintro e w5 ⟨rfl, hb5⟩; have HB5 := jhid9 (jtwo HB4.out hb5); clear hb5)
            | (go_at_call 17; refine (HAn.out _ HB5.out).mono ?_; rintro e w6 ⟨rfl, hb6⟩; have HB6 := jhid9 (jtwo HB5.out hb6); clear hb6))
      go_ret
      exact ⟨rfl, HB6.out⟩
    · clear hdb
      go_enter Tryd.func7, Tryd.ntmps7
      go_wp2_with (first
            | (go_at_call 20; clear MX; refine (HNx.out _).mono ?_; rintro e v1 ⟨rfl, rfl⟩)
            | (go_at_call 20; clear MY; refine (HNy.out _).mono ?_; rintro e v2 ⟨rfl, rfl⟩)
            | (go_at_call 21; clear M7; refine (H7.out _).mono ?_; rintro e w1 ⟨rfl, hb1⟩; have HB1 := jhid9 hb1; clear hb1)
            | (go_at_call 21; clear M8; refine (H8.out _).mono ?_; rintro e w2 ⟨rfl, hb2⟩; have HB2 := jhid9 (jtwo HB1.out hb2); clear hb2)
            | (go_at_call 21; clear M6; refine (H6.out _).mono ?_; rintro e w3 ⟨rfl, hb3⟩; have HB3 := jhid9 (jtwo HB2.out hb3); clear hb3)
            | (go_at_call 21; clear M4; refine (H4.out _).mono ?_; rintro e w4 ⟨rfl, hb4⟩; have HB4 := jhid9 (jtwo HB3.out hb4); clear hb4)
            | (go_at_call 21; clear M5; refine (H5.out _).mono ?_; rintro e w5 ⟨rfl, hb5⟩; have HB5 := jhid9 (jtwo HB4.out hb5); clear hb5)
            | (go_at_call 17; refine (HAn.out _ HB5.out).mono ?_; rintro e w6 ⟨rfl, hb6⟩; have HB6 := jhid9 (jtwo HB5.out hb6); clear hb6))
      go_ret
      exact ⟨rfl, HB6.out⟩
  · have hr0 : r = 0 ∨ (r == 0) = false := by
      by_cases e : r = 0
      · exact .inl e
      · exact .inr (by simpa using e)
    rcases hr0 with rfl | qr
    · rcases hj with rfl | ⟨rfl, rfl⟩
      · clear hdb hdq hrs
        go_enter Tryd.func7, Tryd.ntmps7
        go_wp2_with (first
            | (go_at_call 20; clear MX; refine (HNx.out _).mono ?_; rintro e v1 ⟨rfl, rfl⟩)
            | (go_at_call 20; clear MY; refine (HNy.out _).mono ?_; rintro e v2 ⟨rfl, rfl⟩)
            | (go_at_call 21; clear M7; refine (H7.out _).mono ?_; rintro e w1 ⟨rfl, hb1⟩; have HB1 := jhid9 hb1; clear hb1)
            | (go_at_call 21; clear M8; refine (H8.out _).mono ?_; rintro e w2 ⟨rfl, hb2⟩; have HB2 := jhid9 (jtwo HB1.out hb2); clear hb2)
            | (go_at_call 21; clear M6; refine (H6.out _).mono ?_; rintro e w3 ⟨rfl, hb3⟩; have HB3 := jhid9 (jtwo HB2.out hb3); clear hb3)
            | (go_at_call 21; clear M4; refine (H4.out _).mono ?_; rintro e w4 ⟨rfl, hb4⟩; have HB4 := jhid9 (jtwo HB3.out hb4); clear hb4)
            | (go_at_call 21; clear M5; refine (H5.out _).mono ?_; rintro e w5 ⟨rfl, hb5⟩; have HB5 := jhid9 (jtwo HB4.out hb5); clear hb5)
            | (go_at_call 17; refine (HAn.out _ HB5.out).mono ?_; rintro e w6 ⟨rfl, hb6⟩; have HB6 := jhid9 (jtwo HB5.out hb6); clear hb6))
        go_ret
        exact ⟨rfl, HB6.out⟩
      · clear hdb hrs
        go_enter Tryd.func7, Tryd.ntmps7
        go_wp2_with (first
            | (go_at_call 20; clear MX; refine (HNx.out _).mono ?_; rintro e v1 ⟨rfl, rfl⟩)
            | (go_at_call 20; clear MY; refine (HNy.out _).mono ?_; rintro e v2 ⟨rfl, rfl⟩)
            | (go_at_call 21; clear M7; refine (H7.out _).mono ?_; rintro e w1 ⟨rfl, hb1⟩; have HB1 := jhid9 hb1; clear hb1)
            | (go_at_call 21; clear M8; refine (H8.out _).mono ?_; rintro e w2 ⟨rfl, hb2⟩; have HB2 := jhid9 (jtwo HB1.out hb2); clear hb2)
            | (go_at_call 21; clear M6; refine (H6.out _).mono ?_; rintro e w3 ⟨rfl, hb3⟩; have HB3 := jhid9 (jtwo HB2.out hb3); clear hb3)
            | (go_at_call 21; clear M4; refine (H4.out _).mono ?_; rintro e w4 ⟨rfl, hb4⟩; have HB4 := jhid9 (jtwo HB3.out hb4); clear hb4)
            | (go_at_call 21; clear M5; refine (H5.out _).mono ?_; rintro e w5 ⟨rfl, hb5⟩; have HB5 := jhid9 (jtwo HB4.out hb5); clear hb5)
            | (go_at_call 17; refine (HAn.out _ HB5.out).mono ?_; rintro e w6 ⟨rfl, hb6⟩; have HB6 := jhid9 (jtwo HB5.out hb6); clear hb6))
        go_ret
        exact ⟨rfl, HB6.out⟩
    · obtain ⟨bs, h1, h2⟩ : ∃ bs, decide (r < 0) = bs ∧ decide (n0 < 0) = bs := ⟨_, rfl, hrs.symm⟩
      clear hrs
      rcases hj with rfl | ⟨rfl, rfl⟩
      · clear hdb hdq
        cases bs <;>
        · go_enter Tryd.func7, Tryd.ntmps7
          go_wp2_with (first
            | (go_at_call 20; clear MX; refine (HNx.out _).mono ?_; rintro e v1 ⟨rfl, rfl⟩)
            | (go_at_call 20; clear MY; refine (HNy.out _).mono ?_; rintro e v2 ⟨rfl, rfl⟩)
            | (go_at_call 21; clear M7; refine (H7.out _).mono ?_; rintro e w1 ⟨rfl, hb1⟩; have HB1 := jhid9 hb1; clear hb1)
            | (go_at_call 21; clear M8; refine (H8.out _).mono ?_; rintro e w2 ⟨rfl, hb2⟩; have HB2 := jhid9 (jtwo HB1.out hb2); clear hb2)
            | (go_at_call 21; clear M6; refine (H6.out _).mono ?_; rintro e w3 ⟨rfl, hb3⟩; have HB3 := jhid9 (jtwo HB2.out hb3); clear hb3)
            | (go_at_call 21; clear M4; refine (H4.out _).mono ?_; rintro e w4 ⟨rfl, hb4⟩; have HB4 := jhid9 (jtwo HB3.out hb4); clear hb4)
            | (go_at_call 21; clear M5; refine (H5.out _).mono ?_; rintro e w5 ⟨rfl, hb5⟩; have HB5 := jhid9 (jtwo HB4.out hb5); clear hb5)
            | (go_at_call 17; refine (HAn.out _ HB5.out).mono ?_; rintro e w6 ⟨rfl, hb6⟩; have HB6 := jhid9 (jtwo HB5.out hb6); clear hb6))
          go_ret
          exact ⟨rfl, HB6.out⟩
      · clear hdb
        cases bs <;>
        · go_enter Tryd.func7, Tryd.ntmps7
          go_wp2_with (first
            | (go_at_call 20; clear MX; refine (HNx.out _).mono ?_; rintro e v1 ⟨rfl, rfl⟩)
            | (go_at_call 20; clear MY; refine (HNy.out _).mono ?_; rintro e v2 ⟨rfl, rfl⟩)
            | (go_at_call 21; clear M7; refine (H7.out _).mono ?_; rintro e w1 ⟨rfl, hb1⟩; have HB1 := jhid9 hb1; clear hb1)
            | (go_at_call 21; clear M8; refine (H8.out _).mono ?_; rintro e w2 ⟨rfl, hb2⟩; have HB2 := jhid9 (jtwo HB1.out hb2); clear hb2)
            | (go_at_call 21; clear M6; refine (H6.out _).mono ?_; rintro e w3 ⟨rfl, hb3⟩; have HB3 := jhid9 (jtwo HB2.out hb3); clear hb3)
            | (go_at_call 21; clear M4; refine (H4.out _).mono ?_; rintro e w4 ⟨rfl, hb4⟩; have HB4 := jhid9 (jtwo HB3.out hb4); clear hb4)
            | (go_at_call 21; clear M5; refine (H5.out _).mono ?_; rintro e w5 ⟨rfl, hb5⟩; have HB5 := jhid9 (jtwo HB4.out hb5); clear hb5)
            | (go_at_call 17; refine (HAn.out _ HB5.out).mono ?_; rintro e w6 ⟨rfl, hb6⟩; have HB6 := jhid9 (jtwo HB5.out hb6); clear hb6))
          go_ret
          exact ⟨rfl, HB6.out⟩
set_option maxRecDepth 100000 in
set_option maxHeartbeats 2000000 in
theorem lifted (os : Os) (started : os.Started) (H : Type) (enc : TypeId × Value → H) :
    ReturnsInHanded {} Tryd.checked os 7 .any (fun w args => (Rows.numberPartsSpec.pre enc Tryd.prog Tryd.f7 [] false w args ∧ laidMetH Tryd.prog laidL w) ∧ sizedMet enc Tryd.prog Tryd.f7 (OpenSpec.ofChange Rows.numberPartsSpec) false w args)
      (Rows.numberPartsSpec.post enc Tryd.prog Tryd.f7 false true false false) := by
  refine returnsInHanded_of_change_and (C := Tryd.checked) (X := fun w _ => laidMetH Tryd.prog laidL w) (fun _ _ _ hh h => h.of_heap hh) own started (by kernel_rfl) Tryd.func7
    (ChangeSpec.witness_shaped (enc := enc) (C := Tryd.checked) (os := os) (X := fun w _ => laidMetH Tryd.prog laidL w) false (World.doorLaid Tryd.prog 4000 os) #[.int .i32 0, .int .i32 0] 8 rfl (World.shaped_of_RefB (by kernel_rfl) (by kernel_rfl)) (by kernel_rfl) (by kernel_rfl) (by kernel_rfl) (door_met os _)) ?_
  intro W base args ds gs before hval0 hW hcnd hsz0 hL _
  have hsz : (DataW.weightsEach Tryd.prog (Tryd.f7.params.toList ++ Rows.numberPartsSpec.plain.varTypes Tryd.prog) (ds ++ gs)).all (· ≤ reachBytes) = true := hsz0
  clear hsz0
  have hval : ∀ (j : Nat) t v, Tryd.f7.params[j]? = some t → args[j]? = some v → Value.okWide Tryd.prog W .any base t v := hval0
  have hW' := hW
  obtain ⟨p, q, hA0, hV, rfl, hfz, hnd⟩ := hW
  have hA : DataW.TrodAll enc Tryd.prog W 0 (fun _ => true) true Tryd.f7.params.toList args.toList ds p := hA0
  rw [Tryd.params7] at hA hval hsz
  obtain ⟨va0, vs0, d0, ds0, p0, q0, hargs0, rfl, rfl, h0, tr0⟩ := trodAll_cons hA
  obtain ⟨va1, vs1, d1, ds1, p1, q1, hargs1, rfl, rfl, h1, tr1⟩ := trodAll_cons tr0
  obtain ⟨rfl, rfl, rfl⟩ := trodAll_nil tr1
  obtain rfl : args = #[va0, va1] := by cases args; simp_all
  obtain ⟨rfl, rfl⟩ := trodVars_none hV
  have k0 := h0
  have lt0 : ∀ x ∈ p0, x.block < W.heap.size := by obtain ⟨m, hm⟩ := k0; exact DataW.trod_lt m _ _ _ hm
  have k1 := h1
  have lt1 : ∀ x ∈ p1, x.block < W.heap.size := by obtain ⟨m, hm⟩ := k1; exact DataW.trod_lt m _ _ _ hm
  have hL0 := hL
  rw [MakeChecks.laidMetH_plain _ _ _ (by kernel_rfl)] at hL0
  obtain ⟨n0, rfl, w0⟩ : ∃ n, va0 = .int .i32 n ∧ (Lit.int .i32 n).wf = true := by
    obtain ⟨n, rfl, _, _, hw⟩ := open_int Tryd.underlying21 (hval 0 21 va0 rfl rfl) h0
    exact ⟨n, rfl, hw⟩
  obtain ⟨n1, rfl, w1⟩ : ∃ n, va1 = .int .i32 n ∧ (Lit.int .i32 n).wf = true := by
    obtain ⟨n, rfl, _, _, hw⟩ := open_int Tryd.underlying21 (hval 1 21 va1 rfl rfl) h1
    exact ⟨n, rfl, hw⟩
  clear hA0 hval0
  refine (walk n0 n1 W w0 w1 (of_words hL0)).mono fun e W' ⟨he, bel⟩ => ?_
  subst he
  exact ⟨_, rfl, _, _, _, [], _, [], hW', trodAll_mk1 (shut_bool Tryd.underlying4 _), (trodAll_cons_mk (Below.trod laidOut (by kernel_rfl) (of_decide_eq_true (by kernel_rfl)) k0 bel lt0) (trodAll_cons_mk (Below.trod laidOut (by kernel_rfl) (of_decide_eq_true (by kernel_rfl)) k1 bel lt1) trodAll_mk0)), rfl, bel.frame _, fun h => by cases h⟩
theorem over : Rows.NumberPartsSaid :=
  OpenClaim.holds_of_wide 7 Tryd.f7 rfl rfl rfl rfl rfl rfl rfl ⟨rfl, rfl, rfl, rfl, rfl⟩ rfl rfl rfl rfl rfl (by kernel_rfl) Tryd.func7 (by kernel_rfl)
    (of_decide_eq_true (by kernel_rfl)) (by unfold Func.isWrapper; first | (rw [if_pos (by decide +kernel)]; kernel_rfl) | (rw [if_neg (by decide +kernel)]; exact ⟨rfl, rfl⟩))
    (fun os started H enc _ => lifted os started H enc)
theorem proved : Rows.NumberPartsCardSaid :=
  Claim7.holds_tied_plain_at .later [] [.data] true (true, "1329221dac406c43c15575f849f7c51730e5667f4e56abb764632b948d968ae6") false
    over (fun _ h => by cases h) (by kernel_rfl) (fun _ h => by cases h) numberParts_row_tie rfl ⟨rfl, rfl⟩ (by kernel_rfl) rfl
    (fun f fn hf hfn => by
      obtain rfl : f = 7 := Option.some.inj ((show Tryd.prog.funcNamed "recoup/recouplaw12.NumberParts" = some 7 by kernel_rfl).symm.trans hf) |>.symm
      obtain rfl : fn = Tryd.f7 := (Option.some.inj (Tryd.func7.symm.trans hfn)).symm
      exact ⟨by kernel_rfl, fun j t ht => by
        rw [Tryd.params7] at ht
        have hm : t ∈ [21, 21] := by simpa using Array.mem_of_getElem? ht
        have hall : ([21, 21].all fun u => !Tryd.prog.wantsStandIn u) = true := by kernel_rfl
        exact (show Tryd.prog.wantsStandIn t = false by simpa using List.all_eq_true.1 hall t hm)⟩)
    (by kernel_rfl)
#print axioms proved
end Go.Proofs.YtgmndjbicandfaaDoor.numberParts
