/-
  Proved: for every n from 0 to 64 each cell of the program's Spiral of n is one apart from the one ahead, At tells its number, so that none is met twice, and the first is 0 (P15.5); no condition.
-/
import Derived.Test.YtfajmoiffjbcbaaRK1o
import Derived.Test.YtfajmoiffjbcbaaRK1g
import Derived.WalkKit
import Derived.ProofKit
import Derived.OpenShut
import Derived.ShutString
namespace Go.Proofs.YtfajmoiffjbcbaaR.floorWalk
open Go.ChangeShapes Go.WideShapes Go.ChangeAt Go.RowKit
open Go.ChangeMaps (open_string shut_string)
set_option linter.unusedVariables false      -- a walk need not use every 'w<i>' (that an integer argument fits its kind)

theorem own : ownKnob Try.prog.godebug = none := by kernel_rfl

theorem u8_of_wf15 {n : Int} (h : (Lit.int .u8 n).wf = true) : ∃ x : Nat, n = (x : Int) ∧ x < 256 := by
  simp [Lit.wf, IntKind.min, IntKind.max, IntKind.signed, IntKind.bits] at h
  exact ⟨n.toNat, by omega, by omega⟩

/-! ### STEP 1: THE WALK: the Go text returns true. 'Grown w w'': the world has at most new blocks (Derived/RowKit3.lean). Part the cases AHEAD of 'go_enter' where a test parts the walk; take each callee by a contract of your own. -/
set_option maxHeartbeats 1000000 in
theorem walk (a0 : Int) (w0 : (Lit.int .u8 a0).wf = true) (w : World) :
    Calls Try.prog 5 #[.int .u8 a0] w fun e w' => e = .returned (.bool true) ∧ Below w.heap.size w w' := by
  obtain ⟨x, rfl, hx⟩ := u8_of_wf15 w0
  obtain ⟨M, hM⟩ : ∃ M, x % 65 = M := ⟨_, rfl⟩
  have hm : (x : Int) % 65 = (M : Int) := by omega
  have hM6 : M ≤ 64 := by omega
  clear hM w0
  go_enter Try.func5, Try.ntmps5
  go_wp2_with (go_at_call 16; refine (pspiral_ok _ M hM6).mono ?_; rintro e w1 ⟨g, rfl, hc1, hg1, hb1⟩; have HC1 : Hid (Cl w1 g M M) := hc1; have HB1 : Hid (Below w.heap.size w w1) := hb1; clear hc1 hb1)
  go_loopw [6] (fun vi wr => ∃ j : Nat, j ≤ M ∧ vi = .int .i64 (j : Int) ∧ Below w1.heap.size w1 wr) (fun vi _ => M - (intOf vi).toNat)
  case atStart => exact ⟨0, by omega, rfl, Below.refl _ _⟩
  case round =>
    obtain ⟨j, hj, rfl, hb⟩ := hrel
    have HB : Hid (Below w1.heap.size w1 wr) := hb
    clear hb
    by_cases hlt : j < M
    · have HC : Hid (Cl wr g M M) := HC1.out.later HB.out
      obtain ⟨a, b, cj, fj⟩ := HC.out.cell hlt
      have HFj : Hid (Fw a (spl j).x ∧ Fw b (spl j).y) := fj hlt
      have HAT : Hid (∀ w, Calls Try.prog 17 #[.complex .f64 a b] w fun e w' => e = .returned (.tuple #[.int .i64 (j : Int), .bool true]) ∧ Below w.heap.size w w') := fun w => pat w a b j (by omega) HFj.out.1 HFj.out.2
      have p0 : (0 : Int) ≤ (j : Int) := by omega
      have p1 : (j : Int) < (M : Int) := by omega
      have d1 : decide ((j : Int) < (M : Int)) = true := decide_eq_true p1
      clear fj
      cases j with
      | zero =>
        go_wp2_with (go_at_call 17; refine (HAT.out _).mono ?_; rintro e w3 ⟨rfl, hb3⟩; have HB3 : Hid (Below w1.heap.size w1 w3) := jtwo HB.out hb3; clear hb3)
        exact ⟨⟨1, by omega, by go_num, HB3.out⟩, by simp [intOf]; omega⟩
      | succ i =>
        go_wp2_with (go_at_call 17; refine (HAT.out _).mono ?_; rintro e w3 ⟨rfl, hb3⟩; have HB3 : Hid (Below w1.heap.size w1 w3) := jtwo HB.out hb3; clear hb3)
        have HC3 : Hid (Cl w3 g M M) := HC1.out.later HB3.out
        obtain ⟨a2, b2, c2, f2⟩ := HC3.out.cell (show i < M by omega)
        obtain ⟨a3, b3, c3, f3⟩ := HC3.out.cell hlt
        have HAP : Hid (∀ w, Calls Try.prog 18 #[.complex .f64 a2 b2, .complex .f64 a3 b3] w fun e w' => e = .returned (.tuple #[.int .i64 1, .int .i64 0]) ∧ w' = w) := fun w => by
          have f2' := f2 (by omega)
          have f3' := f3 hlt
          have l2 := spl_fit (k := i) (by omega)
          have l3 := spl_fit (k := i + 1) (by omega)
          have h := papart2 a2 b2 a3 b3 _ _ _ _ w f2'.1 f2'.2 f3'.1 f3'.2 (by omega) (by omega) (by omega) (by omega)
          rw [spl_nxt (by omega)] at h
          refine h.mono ?_
          rintro e w' ⟨rfl, rfl⟩
          exact ⟨rfl, rfl⟩
        have q0 : (0 : Int) ≤ (i : Int) := by omega
        have q1 : (i : Int) < (M : Int) := by omega
        have q2 : (0 : Int) ≤ (i : Int) + 1 := by omega
        have q3 : (i : Int) + 1 < (M : Int) := by omega
        clear f2 f3 HFj HAT HC HC3
        go_quiet ((go_at_call 18; exact Calls.quiet_of_same (HAP.out _)))
        go_wp2
        exact ⟨⟨i + 2, by omega, by go_num, below_drewN HB3.out _⟩, by simp [intOf]; omega⟩
    · obtain rfl : j = M := by omega
      have d1 : decide ((j : Int) < (j : Int)) = false := decide_eq_false (by omega)
      by_cases h0 : j = 0
      · subst h0
        go_wp2_with (go_at_call 15; refine (anch15 _).mono ?_; rintro e w4 ⟨rfl, hb4⟩; have HB4 : Hid (Below w.heap.size w w4) := jtwo HB1.out (jtwo HB.out hb4); clear hb4)
        go_ret
        exact ⟨rfl, HB4.out⟩
      · have n0 : ¬ ((j : Int) = 0) := by omega
        have n1 : decide ((j : Int) = 0) = false := decide_eq_false n0
        have q1 : (0 : Int) < (j : Int) := by omega
        go_wp2_with (go_at_call 15; refine (anch15 _).mono ?_; rintro e w4 ⟨rfl, hb4⟩; have HB4 : Hid (Below w.heap.size w w4) := jtwo HB1.out (jtwo HB.out hb4); obtain ⟨a5, b5, c5, f5⟩ := (HC1.out.later (jtwo HB.out hb4)).cell (show 0 < j by omega); have hq := cx_eq (u := 0) (v := 0) (c := 0) (d := 0) (r := true) (f5 (by omega)).1 (f5 (by omega)).2 (Or.inl (by decide +kernel)) (Or.inl (by decide +kernel)) (by decide) (by decide) (by decide) (by decide) (by decide); clear hb4 f5)
        go_ret
        exact ⟨rfl, HB4.out⟩

/-! ### THE ROW's STEP: WRITTEN OUT: LEAVE IT -/
set_option maxRecDepth 100000 in
theorem lifted (os : Os) (started : os.Started) (H : Type) (enc : TypeId × Value → H) :
    ReturnsInHanded {} Try.checked os 5 .any (Rows.floorWalkSpec.pre6 enc Try.prog Try.f5 Rows.floorWalkRow.domain false) (Rows.floorWalkSpec.post enc Try.prog Try.f5 false true false false) := by
  refine returnsInHanded_of_change (C := Try.checked) own started (by kernel_rfl) Try.func5
    (ChangeSpec.witness6 (enc := enc) (C := Try.checked) false ⟨#[], #[.int .u8 0], []⟩ 8 (by kernel_rfl) (by kernel_rfl) (by kernel_rfl) (by kernel_rfl)) ?_
  intro W base args ds gs before hval0 hW hcnd _
  have hval : ∀ (j : Nat) t v, Try.f5.params[j]? = some t → args[j]? = some v → Value.okWide Try.prog W .any base t v := hval0
  have hW' := hW
  obtain ⟨p, q, hA0, hV, rfl, hfz, hnd⟩ := hW
  have hA : DataW.TrodAll enc Try.prog W 0 (fun _ => true) true Try.f5.params.toList args.toList ds p := hA0
  rw [Try.params5] at hA hval
  obtain ⟨v0, vs0, d0, ds0, p0, q0, hargs, rfl, rfl, h0, r0⟩ := trodAll_cons hA
  obtain ⟨rfl, rfl, rfl⟩ := trodAll_nil r0
  obtain rfl : args = #[v0] := by cases args; simp_all
  obtain ⟨rfl, rfl⟩ := trodVars_none hV
  obtain ⟨a0, rfl, rfl, rfl, w0⟩ := open_int Try.underlying5 (hval 0 5 v0 rfl rfl) h0
  clear hA0 hval0
  simp only [List.append_nil] at hW'
  refine (walk a0 w0 W).mono fun e W' ⟨he, hg⟩ => ?_
  subst he
  exact ⟨_, rfl, _, _, _, [], _, [], hW', trodAll_mk1 (shut_bool Try.underlying4 _), (trodAll_cons_mk (shut_int Try.underlying5 w0) trodAll_mk0), rfl, hg.frame _, fun h => by cases h⟩

theorem over : Rows.floorWalkRow.holds Try.pinned (OpenSpec.ofChange Rows.floorWalkSpec) :=
  OpenClaim.holds_of_wide 5 Try.f5 rfl rfl rfl rfl rfl rfl rfl ⟨rfl, rfl, rfl, rfl, rfl⟩ rfl rfl rfl rfl rfl (by kernel_rfl) Try.func5 (by kernel_rfl)
    (of_decide_eq_true (by kernel_rfl)) (by unfold Func.isWrapper; first | (rw [if_pos (by decide +kernel)]; kernel_rfl) | (rw [if_neg (by decide +kernel)]; exact ⟨rfl, rfl⟩))
    (fun os started H enc _ => lifted os started H enc)

/-- ████ THE STATEMENT ████ -/
theorem proved : Rows.FloorWalkSaid :=
  over
#print axioms proved
end Go.Proofs.YtfajmoiffjbcbaaR.floorWalk
