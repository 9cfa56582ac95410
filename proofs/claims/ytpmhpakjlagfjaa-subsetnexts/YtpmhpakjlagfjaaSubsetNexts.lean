/-
  Proved: for every n and every set s the program's Next answers what the document's answer is (P6.3); no condition.
-/
import Derived.Test.YtpmhpakjlagfjaaJg
import Derived.Test.YtpmhpakjlagfjaaJn
import Derived.WalkKit
import Derived.ProofKit
import Derived.OpenShut
import Derived.ShutString
namespace Go.Proofs.Ytpmhpakjlagfjaa.subsetNexts
open Go.ChangeShapes Go.WideShapes Go.ChangeAt Go.RowKit
open Go.ChangeMaps (open_string shut_string)
set_option linter.unusedVariables false      -- a walk need not use every 'w<i>' (that an integer argument fits its kind)

theorem own : ownKnob Try.prog.godebug = none := by kernel_rfl


/-! ### STEP 1: THE WALK: the Go text returns true. 'Grown w w'': the world has at most new blocks (Derived/RowKit3.lean). Part the cases AHEAD of 'go_enter' where a test parts the walk; take each callee by a contract of your own. -/
set_option maxHeartbeats 400000 in
theorem walk (a0 : Int) (a1 : Int) (w0 : (Lit.int .i64 a0).wf = true) (w1 : (Lit.int .u64 a1).wf = true) (w : World) :
    Calls Try.prog 5 #[.int .i64 a0, .int .u64 a1] w fun e w' => e = .returned (.bool true) ∧ Below w.heap.size w w' := by
  obtain ⟨s, rfl, hs⟩ := u64_of_wf6 w1
  obtain ⟨u, b, HN⟩ : ∃ (u : Int) (b : Bool), ∀ w' : World, (Calls Try.prog 23 #[.int .i64 a0, .int .u64 (s : Int)] w' fun e w'' => e = .returned (.tuple #[.int .u64 u, .bool b]) ∧ Below w'.heap.size w' w'') ∧ (Calls Try.prog 24 #[.int .i64 a0, .int .u64 (s : Int)] w' fun e w'' => e = .returned (.tuple #[.int .u64 u, .bool b]) ∧ Below w'.heap.size w' w'') := by
    by_cases h : a0 < 0 ∨ 64 < a0
    · exact ⟨0, false, fun w' => ⟨(jnext_bad a0 s w' h).mono (fun e w'' h => ⟨h.1, h.2 ▸ Below.refl _ _⟩), (rnext_bad a0 s w' h).mono (fun e w'' h => ⟨h.1, h.2 ▸ Below.refl _ _⟩)⟩⟩
    · obtain ⟨n, rfl⟩ := Int.eq_ofNat_of_zero_le (show 0 ≤ a0 by omega)
      have hn : n ≤ 64 := by omega
      by_cases h2 : s < 2 ^ n
      · have h3 : ∃ (u : Int) (b : Bool), nxa (nx s n) = #[.int .u64 u, .bool b] := by
          cases nx s n with
          | none => exact ⟨_, _, rfl⟩
          | some v => exact ⟨_, _, rfl⟩
        obtain ⟨u, b, e⟩ := h3
        refine ⟨u, b, fun w' => ?_⟩
        rw [← e]
        exact ⟨jnext_ok n s w' hn h2, rnext_ok n s w' hn h2⟩
      · exact ⟨0, false, fun w' => ⟨(jnext_no n s w' hn h2).mono (fun e w'' h => ⟨h.1, h.2 ▸ Below.refl _ _⟩), (rnext_no n s w' hn hs h2).mono (fun e w'' h => ⟨h.1, h.2 ▸ Below.refl _ _⟩)⟩⟩
  have H1 : Hid (∀ w' : World, Calls Try.prog 23 #[.int .i64 a0, .int .u64 (s : Int)] w' fun e w'' => e = .returned (.tuple #[.int .u64 u, .bool b]) ∧ Below w'.heap.size w' w'') := fun w' => (HN w').1
  have H2 : Hid (∀ w' : World, Calls Try.prog 24 #[.int .i64 a0, .int .u64 (s : Int)] w' fun e w'' => e = .returned (.tuple #[.int .u64 u, .bool b]) ∧ Below w'.heap.size w' w'') := fun w' => (HN w').2
  clear HN hs w0 w1
  go_enter Try.func5, Try.ntmps5
  go_wp2_with (first
    | (go_at_call 23; refine (H1.out _).mono ?_; rintro e w1 ⟨rfl, hb⟩; have HB1 : Hid (Below w.heap.size w w1) := hb; clear hb)
    | (go_at_call 24; refine (H2.out _).mono ?_; rintro e w2 ⟨rfl, hb⟩; have HB2 : Hid (Below w.heap.size w w2) := jtwo HB1.out hb; clear hb))
  go_ret
  exact ⟨rfl, HB2.out⟩

/-! ### THE ROW's STEP: WRITTEN OUT: LEAVE IT -/
set_option maxRecDepth 100000 in
theorem lifted (os : Os) (started : os.Started) (H : Type) (enc : TypeId × Value → H) :
    ReturnsInHanded {} Try.checked os 5 .any (Rows.subsetNextsSpec.pre6 enc Try.prog Try.f5 Rows.subsetNextsRow.domain false) (Rows.subsetNextsSpec.post enc Try.prog Try.f5 false true false false) := by
  refine returnsInHanded_of_change (C := Try.checked) own started (by kernel_rfl) Try.func5
    (ChangeSpec.witness6 (enc := enc) (C := Try.checked) false ⟨#[], #[.int .i64 0, .int .u64 0], []⟩ 8 (by kernel_rfl) (by kernel_rfl) (by kernel_rfl) (by kernel_rfl)) ?_
  intro W base args ds gs before hval0 hW hcnd _
  have hval : ∀ (j : Nat) t v, Try.f5.params[j]? = some t → args[j]? = some v → Value.okWide Try.prog W .any base t v := hval0
  have hW' := hW
  obtain ⟨p, q, hA0, hV, rfl, hfz, hnd⟩ := hW
  have hA : DataW.TrodAll enc Try.prog W 0 (fun _ => true) true Try.f5.params.toList args.toList ds p := hA0
  rw [Try.params5] at hA hval
  obtain ⟨v0, vs0, d0, ds0, p0, q0, hargs, rfl, rfl, h0, r0⟩ := trodAll_cons hA
  obtain ⟨v1, vs1, d1, ds1, p1, q1, rfl, rfl, rfl, h1, r1⟩ := trodAll_cons r0
  obtain ⟨rfl, rfl, rfl⟩ := trodAll_nil r1
  obtain rfl : args = #[v0, v1] := by cases args; simp_all
  obtain ⟨rfl, rfl⟩ := trodVars_none hV
  obtain ⟨a0, rfl, rfl, rfl, w0⟩ := open_int Try.underlying3 (hval 0 3 v0 rfl rfl) h0
  obtain ⟨a1, rfl, rfl, rfl, w1⟩ := open_int Try.underlying24 (hval 1 24 v1 rfl rfl) h1
  clear hA0 hval0
  simp only [List.append_nil] at hW'
  refine (walk a0 a1 w0 w1 W).mono fun e W' ⟨he, hg⟩ => ?_
  subst he
  exact ⟨_, rfl, _, _, _, [], _, [], hW', trodAll_mk1 (shut_bool Try.underlying4 _), (trodAll_cons_mk (shut_int Try.underlying3 w0) (trodAll_cons_mk (shut_int Try.underlying24 w1) trodAll_mk0)), rfl, hg.frame _, fun h => by cases h⟩

theorem over : Rows.subsetNextsRow.holds Try.pinned (OpenSpec.ofChange Rows.subsetNextsSpec) :=
  OpenClaim.holds_of_wide 5 Try.f5 rfl rfl rfl rfl rfl rfl rfl ⟨rfl, rfl, rfl, rfl, rfl⟩ rfl rfl rfl rfl rfl (by kernel_rfl) Try.func5 (by kernel_rfl)
    (of_decide_eq_true (by kernel_rfl)) (by unfold Func.isWrapper; first | (rw [if_pos (by decide +kernel)]; kernel_rfl) | (rw [if_neg (by decide +kernel)]; exact ⟨rfl, rfl⟩))
    (fun os started H enc _ => lifted os started H enc)

/-- ████ THE STATEMENT ████ -/
theorem proved : Rows.SubsetNextsSaid :=
  over
#print axioms proved
end Go.Proofs.Ytpmhpakjlagfjaa.subsetNexts
