/-
  Proved: for every n, k and set s the program's Place and At answer what the document's answers are, or their errors (P6.4); no condition.
-/
import Derived.Test.YtpmhpakjlagfjaaJg
import Derived.Test.YtpmhpakjlagfjaaJp
import Derived.WalkKit
import Derived.ProofKit
import Derived.OpenShut
import Derived.ShutString
namespace Go.Proofs.Ytpmhpakjlagfjaa.subsetPlaces
open Go.ChangeShapes Go.WideShapes Go.ChangeAt Go.RowKit
open Go.ChangeMaps (open_string shut_string)
set_option linter.unusedVariables false      -- a walk need not use every 'w<i>' (that an integer argument fits its kind)

theorem own : ownKnob Try.prog.godebug = none := by kernel_rfl

set_option maxHeartbeats 400000 in
theorem placed_any (n k p : Int) (w : World) : Calls Try.prog 30 #[.int .i64 n, .int .i64 k, .int .i64 p] w fun e w' => e = .returned (.bool true) ∧ Below w.heap.size w w' := by
  obtain ⟨u, v, HN⟩ := at_pair n k p
  have H1 : Hid (∀ w : World, Calls Try.prog 31 #[.int .i64 n, .int .i64 k, .int .i64 p] w fun e w' => e = .returned (.tuple #[.int .u64 u, .int .i64 v]) ∧ Below w.heap.size w w') := fun w => (HN w).1
  have H2 : Hid (∀ w : World, Calls Try.prog 42 #[.int .i64 n, .int .i64 k, .int .i64 p] w fun e w' => e = .returned (.tuple #[.int .u64 u, .int .i64 v]) ∧ Below w.heap.size w w') := fun w => (HN w).2
  clear HN
  go_enter Try.func30, Try.ntmps30
  go_wp2_with (first
    | (go_at_call 31; refine (H1.out _).mono ?_; rintro e w1 ⟨rfl, hb⟩; have HB1 : Hid (Below w.heap.size w w1) := hb; clear hb)
    | (go_at_call 42; refine (H2.out _).mono ?_; rintro e w2 ⟨rfl, hb⟩; have HB2 : Hid (Below w.heap.size w w2) := jtwo HB1.out hb; clear hb))
  go_ret
  exact ⟨rfl, HB2.out⟩
theorem place_pair (n : Int) (s : Nat) (hs : s < 18446744073709551616) : ∃ (u v : Int), ∀ w : World, (Calls Try.prog 28 #[.int .i64 n, .int .u64 (s : Int)] w fun e w' => e = .returned (.tuple #[.int .i64 u, .int .i64 v]) ∧ Below w.heap.size w w') ∧ (Calls Try.prog 29 #[.int .i64 n, .int .u64 (s : Int)] w fun e w' => e = .returned (.tuple #[.int .i64 u, .int .i64 v]) ∧ Below w.heap.size w w') := by
  by_cases h : n < 0 ∨ 64 < n
  · exact ⟨0, 2, fun w => ⟨(jplace_bad n s w h).mono (fun e w' h => ⟨h.1, h.2 ▸ Below.refl _ _⟩), (rplace_bad n s w h).mono (fun e w' h => ⟨h.1, h.2 ▸ Below.refl _ _⟩)⟩⟩
  · obtain ⟨n, rfl⟩ := Int.eq_ofNat_of_zero_le (show 0 ≤ n by omega)
    have hn : n ≤ 64 := by omega
    by_cases h2 : s < 2 ^ n
    · exact ⟨_, _, fun w => ⟨jplace_ok n s w hn h2, rplace_ok n s w hn h2⟩⟩
    · exact ⟨0, 2, fun w => ⟨(jplace_no n s w hn h2).mono (fun e w' h => ⟨h.1, h.2 ▸ Below.refl _ _⟩), (rplace_no n s w hn hs h2).mono (fun e w' h => ⟨h.1, h.2 ▸ Below.refl _ _⟩)⟩⟩

/-! ### STEP 1: THE WALK: the Go text returns true. 'Grown w w'': the world has at most new blocks (Derived/RowKit3.lean). Part the cases AHEAD of 'go_enter' where a test parts the walk; take each callee by a contract of your own. -/
set_option maxHeartbeats 400000 in
theorem walk (a0 : Int) (a1 : Int) (a2 : Int) (w0 : (Lit.int .i64 a0).wf = true) (w1 : (Lit.int .i64 a1).wf = true) (w2 : (Lit.int .u64 a2).wf = true) (w : World) :
    Calls Try.prog 7 #[.int .i64 a0, .int .i64 a1, .int .u64 a2] w fun e w' => e = .returned (.bool true) ∧ Below w.heap.size w w' := by
  obtain ⟨s, rfl, hs⟩ := u64_of_wf6 w2
  obtain ⟨u, v, HN⟩ := place_pair a0 s hs
  have H1 : Hid (∀ w : World, Calls Try.prog 28 #[.int .i64 a0, .int .u64 (s : Int)] w fun e w' => e = .returned (.tuple #[.int .i64 u, .int .i64 v]) ∧ Below w.heap.size w w') := fun w => (HN w).1
  have H2 : Hid (∀ w : World, Calls Try.prog 29 #[.int .i64 a0, .int .u64 (s : Int)] w fun e w' => e = .returned (.tuple #[.int .i64 u, .int .i64 v]) ∧ Below w.heap.size w w') := fun w => (HN w).2
  obtain ⟨K, HC⟩ : ∃ K : Nat, Hid (∀ w' : World, Calls Try.prog 16 #[.int .u64 (s : Int)] w' fun e w'' => e = .returned (.int .i64 (K : Int)) ∧ w' = w'') := ⟨cn s 64, fun w' => jcount_ok s w' hs⟩
  clear HN hs w0 w1 w2
  go_enter Try.func7, Try.ntmps7
  go_wp2_with (first
    | (go_at_call 28; refine (H1.out _).mono ?_; rintro e w1 ⟨rfl, hb⟩; have HB1 : Hid (Below w.heap.size w w1) := hb; clear hb)
    | (go_at_call 29; refine (H2.out _).mono ?_; rintro e w2 ⟨rfl, hb⟩; have HB2 : Hid (Below w.heap.size w w2) := jtwo HB1.out hb; clear hb)
    | (go_at_call 30; have _x := HB4; refine (placed_any _ _ _ _).mono ?_; rintro e w5 ⟨rfl, hb⟩; have HB5 : Hid (Below w.heap.size w w5) := jtwo HB4.out hb; clear hb)
    | (go_at_call 30; have _x := HB3; refine (placed_any _ _ _ _).mono ?_; rintro e w4 ⟨rfl, hb⟩; have HB4 : Hid (Below w.heap.size w w4) := jtwo HB3.out hb; clear hb)
    | (go_at_call 30; have _x := HB2; refine (placed_any _ _ _ _).mono ?_; rintro e w3 ⟨rfl, hb⟩; have HB3 : Hid (Below w.heap.size w w3) := jtwo HB2.out hb; clear hb)
    | (go_at_call 16; refine (HC.out _).mono ?_; rintro e w' ⟨rfl, rfl⟩))
  go_ret
  exact ⟨rfl, HB5.out⟩

/-! ### THE ROW's STEP: WRITTEN OUT: LEAVE IT -/
set_option maxRecDepth 100000 in
theorem lifted (os : Os) (started : os.Started) (H : Type) (enc : TypeId × Value → H) :
    ReturnsInHanded {} Try.checked os 7 .any (Rows.subsetPlacesSpec.pre6 enc Try.prog Try.f7 Rows.subsetPlacesRow.domain false) (Rows.subsetPlacesSpec.post enc Try.prog Try.f7 false true false false) := by
  refine returnsInHanded_of_change (C := Try.checked) own started (by kernel_rfl) Try.func7
    (ChangeSpec.witness6 (enc := enc) (C := Try.checked) false ⟨#[], #[.int .i64 0, .int .i64 0, .int .u64 0], []⟩ 8 (by kernel_rfl) (by kernel_rfl) (by kernel_rfl) (by kernel_rfl)) ?_
  intro W base args ds gs before hval0 hW hcnd _
  have hval : ∀ (j : Nat) t v, Try.f7.params[j]? = some t → args[j]? = some v → Value.okWide Try.prog W .any base t v := hval0
  have hW' := hW
  obtain ⟨p, q, hA0, hV, rfl, hfz, hnd⟩ := hW
  have hA : DataW.TrodAll enc Try.prog W 0 (fun _ => true) true Try.f7.params.toList args.toList ds p := hA0
  rw [Try.params7] at hA hval
  obtain ⟨v0, vs0, d0, ds0, p0, q0, hargs, rfl, rfl, h0, r0⟩ := trodAll_cons hA
  obtain ⟨v1, vs1, d1, ds1, p1, q1, rfl, rfl, rfl, h1, r1⟩ := trodAll_cons r0
  obtain ⟨v2, vs2, d2, ds2, p2, q2, rfl, rfl, rfl, h2, r2⟩ := trodAll_cons r1
  obtain ⟨rfl, rfl, rfl⟩ := trodAll_nil r2
  obtain rfl : args = #[v0, v1, v2] := by cases args; simp_all
  obtain ⟨rfl, rfl⟩ := trodVars_none hV
  obtain ⟨a0, rfl, rfl, rfl, w0⟩ := open_int Try.underlying3 (hval 0 3 v0 rfl rfl) h0
  obtain ⟨a1, rfl, rfl, rfl, w1⟩ := open_int Try.underlying3 (hval 1 3 v1 rfl rfl) h1
  obtain ⟨a2, rfl, rfl, rfl, w2⟩ := open_int Try.underlying24 (hval 2 24 v2 rfl rfl) h2
  clear hA0 hval0
  simp only [List.append_nil] at hW'
  refine (walk a0 a1 a2 w0 w1 w2 W).mono fun e W' ⟨he, hg⟩ => ?_
  subst he
  exact ⟨_, rfl, _, _, _, [], _, [], hW', trodAll_mk1 (shut_bool Try.underlying4 _), (trodAll_cons_mk (shut_int Try.underlying3 w0) (trodAll_cons_mk (shut_int Try.underlying3 w1) (trodAll_cons_mk (shut_int Try.underlying24 w2) trodAll_mk0))), rfl, hg.frame _, fun h => by cases h⟩

theorem over : Rows.subsetPlacesRow.holds Try.pinned (OpenSpec.ofChange Rows.subsetPlacesSpec) :=
  OpenClaim.holds_of_wide 7 Try.f7 rfl rfl rfl rfl rfl rfl rfl ⟨rfl, rfl, rfl, rfl, rfl⟩ rfl rfl rfl rfl rfl (by kernel_rfl) Try.func7 (by kernel_rfl)
    (of_decide_eq_true (by kernel_rfl)) (by unfold Func.isWrapper; first | (rw [if_pos (by decide +kernel)]; kernel_rfl) | (rw [if_neg (by decide +kernel)]; exact ⟨rfl, rfl⟩))
    (fun os started H enc _ => lifted os started H enc)

/-- ████ THE STATEMENT ████ -/
theorem proved : Rows.SubsetPlacesSaid :=
  over
#print axioms proved
end Go.Proofs.Ytpmhpakjlagfjaa.subsetPlaces
