/-
  Proved: for all bytes a and b the program answers the document's inverse of b and quotient of a by b, or its error (P1.2); no condition.
-/
import Derived.Test.YthopljmfeeglpaaWg
import Derived.WalkKit
import Derived.ProofKit
import Derived.OpenShut
import Derived.ShutString
namespace Go.Proofs.Ythopljmfeeglpaa.fieldQuotients
open Go.ChangeShapes Go.WideShapes Go.ChangeAt Go.RowKit
open Go.ChangeMaps (open_string shut_string)
set_option linter.unusedVariables false      -- a walk need not use every 'w<i>' (that an integer argument fits its kind)

theorem own : ownKnob Try.prog.godebug = none := by kernel_rfl

/-! ### STEP 1: THE WALK: the Go text returns true. 'Grown w w'': the world has at most new blocks (Derived/RowKit3.lean). Part the cases AHEAD of 'go_enter' where a test parts the walk; take each callee by a contract of your own. -/
theorem walk (a0 : Int) (a1 : Int) (w0 : (Lit.int .u8 a0).wf = true) (w1 : (Lit.int .u8 a1).wf = true) (w : World) :
    Calls Try.prog 4 #[.int .u8 a0, .int .u8 a1] w fun e w' => e = .returned (.bool true) ∧ Below w.heap.size w w' := by
  obtain ⟨b0, b0'⟩ := byte_of_wf w0
  obtain ⟨b1, b1'⟩ := byte_of_wf w1
  obtain ⟨x, rfl⟩ := Int.eq_ofNat_of_zero_le b0
  obtain ⟨y, rfl⟩ := Int.eq_ofNat_of_zero_le b1
  have hx : x < 256 := by omega
  have hy : y < 256 := by omega
  clear w0 w1 b0 b0' b1 b1'
  by_cases h : y = 0
  · have e2 : ive y = 5 := by simp [ive, h]
    have e1 : fm x (finv y) = 0 := by simp [finv, h, fm_zero]
    clear h
    go_enter Try.func4, Try.ntmps4
    go_wp2_with (first
      | (go_at_call 12; refine (inv_any y _ hy).mono ?_; rintro e w1 ⟨rfl, hb1⟩)
      | (go_at_call 13; refine (rinv_any y _ hy).mono ?_; rintro e w' ⟨rfl, hwq⟩; subst hwq)
      | (go_at_call 14; refine (div_any x y _ hx hy).mono ?_; rintro e w2 ⟨rfl, hb2⟩)
      | (go_at_call 15; refine (rdiv_any x y _ hx hy).mono ?_; rintro e w' ⟨rfl, hwq⟩; subst hwq))
    go_ret
    exact ⟨rfl, two_below (by assumption) (by assumption)⟩
  · have e2 : ive y = 0 := by simp [ive, h]
    clear h
    go_enter Try.func4, Try.ntmps4
    go_wp2_with (first
      | (go_at_call 12; refine (inv_any y _ hy).mono ?_; rintro e w1 ⟨rfl, hb1⟩)
      | (go_at_call 13; refine (rinv_any y _ hy).mono ?_; rintro e w' ⟨rfl, hwq⟩; subst hwq)
      | (go_at_call 14; refine (div_any x y _ hx hy).mono ?_; rintro e w2 ⟨rfl, hb2⟩)
      | (go_at_call 15; refine (rdiv_any x y _ hx hy).mono ?_; rintro e w' ⟨rfl, hwq⟩; subst hwq))
    go_ret
    exact ⟨rfl, two_below (by assumption) (by assumption)⟩

/-! ### THE ROW's STEP: WRITTEN OUT: LEAVE IT -/
set_option maxRecDepth 100000 in
theorem lifted (os : Os) (started : os.Started) (H : Type) (enc : TypeId × Value → H) :
    ReturnsInHanded {} Try.checked os 4 .any (Rows.fieldQuotientsSpec.pre6 enc Try.prog Try.f4 Rows.fieldQuotientsRow.domain false) (Rows.fieldQuotientsSpec.post enc Try.prog Try.f4 false true false false) := by
  refine returnsInHanded_of_change (C := Try.checked) own started (by kernel_rfl) Try.func4
    (ChangeSpec.witness6 (enc := enc) (C := Try.checked) false ⟨#[], #[.int .u8 0, .int .u8 0], []⟩ 8 (by kernel_rfl) (by kernel_rfl) (by kernel_rfl) (by kernel_rfl)) ?_
  intro W base args ds gs before hval0 hW hcnd _
  have hval : ∀ (j : Nat) t v, Try.f4.params[j]? = some t → args[j]? = some v → Value.okWide Try.prog W .any base t v := hval0
  have hW' := hW
  obtain ⟨p, q, hA0, hV, rfl, hfz, hnd⟩ := hW
  have hA : DataW.TrodAll enc Try.prog W 0 (fun _ => true) true Try.f4.params.toList args.toList ds p := hA0
  rw [Try.params4] at hA hval
  obtain ⟨v0, vs0, d0, ds0, p0, q0, hargs, rfl, rfl, h0, r0⟩ := trodAll_cons hA
  obtain ⟨v1, vs1, d1, ds1, p1, q1, rfl, rfl, rfl, h1, r1⟩ := trodAll_cons r0
  obtain ⟨rfl, rfl, rfl⟩ := trodAll_nil r1
  obtain rfl : args = #[v0, v1] := by cases args; simp_all
  obtain ⟨rfl, rfl⟩ := trodVars_none hV
  obtain ⟨a0, rfl, rfl, rfl, w0⟩ := open_int Try.underlying5 (hval 0 5 v0 rfl rfl) h0
  obtain ⟨a1, rfl, rfl, rfl, w1⟩ := open_int Try.underlying5 (hval 1 5 v1 rfl rfl) h1
  clear hA0 hval0
  simp only [List.append_nil] at hW'
  refine (walk a0 a1 w0 w1 W).mono fun e W' ⟨he, hg⟩ => ?_
  subst he
  exact ⟨_, rfl, _, _, _, [], _, [], hW', trodAll_mk1 (shut_bool Try.underlying4 _), (trodAll_cons_mk (shut_int Try.underlying5 w0) (trodAll_cons_mk (shut_int Try.underlying5 w1) trodAll_mk0)), rfl, hg.frame _, fun h => by cases h⟩

theorem over : Rows.fieldQuotientsRow.holds Try.pinned (OpenSpec.ofChange Rows.fieldQuotientsSpec) :=
  OpenClaim.holds_of_wide 4 Try.f4 rfl rfl rfl rfl rfl rfl rfl ⟨rfl, rfl, rfl, rfl, rfl⟩ rfl rfl rfl rfl rfl (by kernel_rfl) Try.func4 (by kernel_rfl)
    (of_decide_eq_true (by kernel_rfl)) (by unfold Func.isWrapper; first | (rw [if_pos (by decide +kernel)]; kernel_rfl) | (rw [if_neg (by decide +kernel)]; exact ⟨rfl, rfl⟩))
    (fun os started H enc _ => lifted os started H enc)

/-- ████ THE STATEMENT ████ -/
theorem proved : Rows.FieldQuotientsSaid :=
  over
#print axioms proved
end Go.Proofs.Ythopljmfeeglpaa.fieldQuotients
