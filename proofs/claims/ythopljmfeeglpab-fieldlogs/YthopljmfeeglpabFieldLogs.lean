/-
  Proved: for all bytes a and b that are not 0 the power of 2 with the exponent Log(a) is a, and the Log of the product is the sum of the Logs, modulo 255; of 0 Log answers an error (P1.3, P1.5); no condition.
-/
import Derived.Test.YthopljmfeeglpabWg
import Derived.WalkKit
import Derived.ProofKit
import Derived.OpenShut
import Derived.ShutString
namespace Go.Proofs.Ythopljmfeeglpab.fieldLogs
open Go.ChangeShapes Go.WideShapes Go.ChangeAt Go.RowKit
open Go.ChangeMaps (open_string shut_string)
set_option linter.unusedVariables false      -- a walk need not use every 'w<i>' (that an integer argument fits its kind)

theorem own : ownKnob Try.prog.godebug = none := by kernel_rfl

theorem log_hid (a : Nat) (w : World) (ha : a < 256) (h0 : Hid (a ≠ 0)) : Calls Try.prog 7 #[.int .u8 (a : Int)] w fun e w' => e = .returned (.tuple #[.int .i64 (lg a : Nat), .int .i64 0]) ∧ Below w.heap.size w w' := log_main a w ha h0.out
theorem logs_add (x y : Nat) (hx : x < 256) (hy : y < 256) (h0 : x ≠ 0) (h1 : y ≠ 0) : lg (fm x y) = (lg x + lg y) % 255 := by
  have a := lg_at x hx h0
  have b := lg_at y hy h1
  have e := fm_g (lg x) (lg y)
  rw [a.2, b.2] at e
  rw [e, ← g_mod, lg_g _ (by omega)]
theorem four_below {w w1 w2 w3 w4 : World} (h1 : Below w.heap.size w w1) (h2 : Below w1.heap.size w1 w2) (h3 : Below w2.heap.size w2 w3) (h4 : Below w3.heap.size w3 w4) : Below w.heap.size w w4 := two_below (two_below (two_below h1 h2) h3) h4

/-! ### STEP 1: THE WALK: the Go text returns true. 'Grown w w'': the world has at most new blocks (Derived/RowKit3.lean). Part the cases AHEAD of 'go_enter' where a test parts the walk; take each callee by a contract of your own. -/
set_option maxHeartbeats 400000 in
set_option maxRecDepth 20000 in
theorem walk (a0 : Int) (a1 : Int) (w0 : (Lit.int .u8 a0).wf = true) (w1 : (Lit.int .u8 a1).wf = true) (w : World) :
    Calls Try.prog 3 #[.int .u8 a0, .int .u8 a1] w fun e w' => e = .returned (.bool true) ∧ Below w.heap.size w w' := by
  obtain ⟨b0, b0'⟩ := byte_of_wf w0
  obtain ⟨b1, b1'⟩ := byte_of_wf w1
  obtain ⟨x, rfl⟩ := Int.eq_ofNat_of_zero_le b0
  obtain ⟨y, rfl⟩ := Int.eq_ofNat_of_zero_le b1
  have hx : x < 256 := by omega
  have hy : y < 256 := by omega
  clear w0 w1 b0 b0' b1 b1'
  by_cases h0 : x = 0
  · have t0 : ((x : Int) == 0) = true := by simpa using h0
    clear h0
    go_enter Try.func3, Try.ntmps3
    go_wp2_with (first
      | (go_at_call 7; refine (log_zero _).mono ?_; rintro e w' ⟨rfl, hwq⟩; subst hwq)
      | (go_at_call 8; refine (anchored_any _).mono ?_; rintro e w' ⟨rfl, hwq⟩; subst hwq))
    go_ret
    exact ⟨rfl, Below.refl _ _⟩
  by_cases h1 : y = 0
  · have t0 : ((x : Int) == 0) = false := by simpa using h0
    have t1 : ((y : Int) == 0) = true := by simpa using h1
    clear h0 h1
    go_enter Try.func3, Try.ntmps3
    go_wp2_with (first
      | (go_at_call 7; refine (log_zero _).mono ?_; rintro e w' ⟨rfl, hwq⟩; subst hwq)
      | (go_at_call 8; refine (anchored_any _).mono ?_; rintro e w' ⟨rfl, hwq⟩; subst hwq))
    go_ret
    exact ⟨rfl, Below.refl _ _⟩
  · have t0 : ((x : Int) == 0) = false := by simpa using h0
    have t1 : ((y : Int) == 0) = false := by simpa using h1
    obtain ⟨z, HZ⟩ : ∃ z, Hid (fm x y = z) := ⟨_, rfl⟩
    have hz : z < 256 := by rw [← HZ.out]; exact fm_lt x y hx
    have HM : Hid (z ≠ 0) := by rw [← HZ.out]; exact fun e => ((fm_eq_zero x y hx hy).mp e).elim h0 h1
    have HMul : Hid (∀ w, Calls Try.prog 9 #[.int .u8 (x : Int), .int .u8 (y : Int)] w fun e w' => e = .returned (.int .u8 (z : Int)) ∧ w' = w) := by rw [← HZ.out]; exact fun w => mul_nat x y w hx hy
    have H0 : Hid (x ≠ 0) := h0
    have H1 : Hid (y ≠ 0) := h1
    have a := lg_at x hx h0
    have b := lg_at y hy h1
    obtain ⟨l, hl, hl2⟩ : ∃ l, lg x = l ∧ l < 255 := ⟨_, rfl, a.1⟩
    obtain ⟨m, hmm, hm2⟩ : ∃ m, lg y = m ∧ m < 255 := ⟨_, rfl, b.1⟩
    have e1 : lg z = (l + m) % 255 := by rw [← HZ.out, logs_add x y hx hy h0 h1, hl, hmm]
    have HE : Hid (g (inb (l : Int)).toNat = x) := by
      show _ = _
      rw [show (inb (l : Int)).toNat = l by unfold inb; omega, ← hl, a.2]
    have e2 : g (inb (l : Int)).toNat = x := HE.out
    have hi : I64 (l : Int) := ⟨by omega, by omega⟩
    have HI : Hid (I64 (l : Int)) := hi
    clear h0 h1 a b hi HZ
    go_enter Try.func3, Try.ntmps3
    go_wp2_with (first
      | (go_at_call 7; refine (log_hid _ _ (by assumption) (by assumption)).mono ?_; rintro e w1 ⟨rfl, hb1⟩)
      | (go_at_call 9; refine (HMul.out _).mono ?_; rintro e w' ⟨rfl, hwq⟩; subst hwq)
      | (go_at_call 10; refine (exp_any _ _ HI.out).mono ?_; rintro e w4 ⟨rfl, hb4⟩)
      | (go_at_call 8; refine (anchored_any _).mono ?_; rintro e w' ⟨rfl, hwq⟩; subst hwq))
    go_ret
    exact ⟨rfl, four_below (by assumption) (by assumption) (by assumption) (by assumption)⟩

/-! ### THE ROW's STEP: WRITTEN OUT: LEAVE IT -/
set_option maxRecDepth 100000 in
theorem lifted (os : Os) (started : os.Started) (H : Type) (enc : TypeId × Value → H) :
    ReturnsInHanded {} Try.checked os 3 .any (Rows.fieldLogsSpec.pre6 enc Try.prog Try.f3 Rows.fieldLogsRow.domain false) (Rows.fieldLogsSpec.post enc Try.prog Try.f3 false true false false) := by
  refine returnsInHanded_of_change (C := Try.checked) own started (by kernel_rfl) Try.func3
    (ChangeSpec.witness6 (enc := enc) (C := Try.checked) false ⟨#[], #[.int .u8 0, .int .u8 0], []⟩ 8 (by kernel_rfl) (by kernel_rfl) (by kernel_rfl) (by kernel_rfl)) ?_
  intro W base args ds gs before hval0 hW hcnd _
  have hval : ∀ (j : Nat) t v, Try.f3.params[j]? = some t → args[j]? = some v → Value.okWide Try.prog W .any base t v := hval0
  have hW' := hW
  obtain ⟨p, q, hA0, hV, rfl, hfz, hnd⟩ := hW
  have hA : DataW.TrodAll enc Try.prog W 0 (fun _ => true) true Try.f3.params.toList args.toList ds p := hA0
  rw [Try.params3] at hA hval
  obtain ⟨v0, vs0, d0, ds0, p0, q0, hargs, rfl, rfl, h0, r0⟩ := trodAll_cons hA
  obtain ⟨v1, vs1, d1, ds1, p1, q1, rfl, rfl, rfl, h1, r1⟩ := trodAll_cons r0
  obtain ⟨rfl, rfl, rfl⟩ := trodAll_nil r1
  obtain rfl : args = #[v0, v1] := by cases args; simp_all
  obtain ⟨rfl, rfl⟩ := trodVars_none hV
  obtain ⟨a0, rfl, rfl, rfl, w0⟩ := open_int Try.underlying5 (hval 0 5 v0 rfl rfl) h0
  obtain ⟨a1, rfl, rfl, rfl, w1⟩ := open_int Try.underlying5 (hval 1 5 v1 rfl rfl) h1
  clear hA0 hval0
  simp only [List.append_nil] at hW'
  refine (walk a0 a1 w0 w1 W).mono fun e W' ⟨he, hg⟩ => ?_
  subst he
  exact ⟨_, rfl, _, _, _, [], _, [], hW', trodAll_mk1 (shut_bool Try.underlying4 _), (trodAll_cons_mk (shut_int Try.underlying5 w0) (trodAll_cons_mk (shut_int Try.underlying5 w1) trodAll_mk0)), rfl, hg.frame _, fun h => by cases h⟩

theorem over : Rows.fieldLogsRow.holds Try.pinned (OpenSpec.ofChange Rows.fieldLogsSpec) :=
  OpenClaim.holds_of_wide 3 Try.f3 rfl rfl rfl rfl rfl rfl rfl ⟨rfl, rfl, rfl, rfl, rfl⟩ rfl rfl rfl rfl rfl (by kernel_rfl) Try.func3 (by kernel_rfl)
    (of_decide_eq_true (by kernel_rfl)) (by unfold Func.isWrapper; first | (rw [if_pos (by decide +kernel)]; kernel_rfl) | (rw [if_neg (by decide +kernel)]; exact ⟨rfl, rfl⟩))
    (fun os started H enc _ => lifted os started H enc)

/-- ████ THE STATEMENT ████ -/
theorem proved : Rows.FieldLogsSaid :=
  over
#print axioms proved
end Go.Proofs.Ythopljmfeeglpab.fieldLogs
