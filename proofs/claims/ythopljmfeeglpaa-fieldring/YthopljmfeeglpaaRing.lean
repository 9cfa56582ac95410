/-
  Proved: for all bytes a, b, c the program's sums and products are those of a field: orders, groupings, products of sums, products that are 0, and the product with 1 (P1.5); no condition.
-/
import Derived.Test.YthopljmfeeglpaaWa
import Derived.WalkKit
import Derived.ProofKit
import Derived.OpenShut
import Derived.ShutString
namespace Go.Proofs.Ythopljmfeeglpaa.fieldRing
open Go.ChangeShapes Go.WideShapes Go.ChangeAt Go.RowKit
open Go.ChangeMaps (open_string shut_string)
set_option linter.unusedVariables false      -- a walk need not use every 'w<i>' (that an integer argument fits its kind)

theorem own : ownKnob Try.prog.godebug = none := by kernel_rfl

/-! ### The plain law, over Int -/
theorem r_comm (a b : Int) (ha : Byte a) (hb : Byte b) : imul b a = imul a b := by
  unfold imul; rw [fm_comm _ _ (byte_toNat hb) (byte_toNat ha)]
theorem r_assoc (a b c : Int) (ha : Byte a) (hb : Byte b) : imul (imul a b) c = imul a (imul b c) := by
  unfold imul; simp only [Int.toNat_natCast]; rw [fm_assoc _ _ _ (byte_toNat ha) (byte_toNat hb)]
theorem r_dist (a b c : Int) : imul a (ixor b c) = ixor (imul a b) (imul a c) := by
  unfold imul ixor; simp only [Int.toNat_natCast]; rw [fm_xor]
theorem r_one (a : Int) (ha : Byte a) : imul a 1 = a := by
  have h := byte_toNat ha
  unfold imul; rw [show (1 : Int).toNat = 1 from rfl, fm_one _ h]; unfold Byte at ha; omega
theorem r_zero (a b : Int) (ha : Byte a) (hb : Byte b) : imul a b = 0 ↔ a = 0 ∨ b = 0 := by
  have := fm_eq_zero _ _ (byte_toNat ha) (byte_toNat hb)
  unfold imul; unfold Byte at ha hb; omega

/-! ### STEP 1: THE WALK: the Go text returns true. 'Grown w w'': the world has at most new blocks (Derived/RowKit3.lean). Part the cases AHEAD of 'go_enter' where a test parts the walk; take each callee by a contract of your own. -/
theorem walk (a0 : Int) (a1 : Int) (a2 : Int) (w0 : (Lit.int .u8 a0).wf = true) (w1 : (Lit.int .u8 a1).wf = true) (w2 : (Lit.int .u8 a2).wf = true) (w : World) :
    Calls Try.prog 7 #[.int .u8 a0, .int .u8 a1, .int .u8 a2] w fun e w' => e = .returned (.bool true) ∧ Grown w w' := by
  have b0 := byte_of_wf w0
  have b1 := byte_of_wf w1
  have b2 := byte_of_wf w2
  have e1 := r_comm a0 a1 b0 b1
  have e2 := r_assoc a0 a1 a2 b0 b1
  have e3 := r_dist a0 a1 a2
  have e4 := r_one a0 b0
  have i1 := imul_byte a0 a1 b0
  have i2 := imul_byte a1 a2 b1
  have i3 := imul_byte a0 a2 b0
  have i4 := ixor_byte a1 a2 b1 b2
  have one : Byte 1 := ⟨by decide, by decide⟩
  have hz := r_zero a0 a1 b0 b1
  by_cases h0 : a0 = 0
  · have t0 : (a0 == 0) = true := by simpa using h0
    have t2 : (imul a0 a1 == 0) = true := by simpa using hz.mpr (.inl h0)
    clear h0 hz
    go_enter Try.func7, Try.ntmps7
    go_wp2_with (first | (go_at_call 9; refine (add_any _ _ _ (by assumption) (by assumption)).mono ?_; rintro e w' ⟨rfl, rfl⟩) | (go_at_call 10; refine (mul_any _ _ _ (by assumption) (by assumption)).mono ?_; rintro e w' ⟨rfl, rfl⟩) | (go_at_call 30; refine (anchored_any _).mono ?_; rintro e w' ⟨rfl, rfl⟩))
    go_ret
    exact ⟨rfl, Grown.refl _⟩
  by_cases h1 : a1 = 0
  · have t0 : (a0 == 0) = false := by simpa using h0
    have t1 : (a1 == 0) = true := by simpa using h1
    have t2 : (imul a0 a1 == 0) = true := by simpa using hz.mpr (.inr h1)
    clear h0 h1 hz
    go_enter Try.func7, Try.ntmps7
    go_wp2_with (first | (go_at_call 9; refine (add_any _ _ _ (by assumption) (by assumption)).mono ?_; rintro e w' ⟨rfl, rfl⟩) | (go_at_call 10; refine (mul_any _ _ _ (by assumption) (by assumption)).mono ?_; rintro e w' ⟨rfl, rfl⟩) | (go_at_call 30; refine (anchored_any _).mono ?_; rintro e w' ⟨rfl, rfl⟩))
    go_ret
    exact ⟨rfl, Grown.refl _⟩
  · have t0 : (a0 == 0) = false := by simpa using h0
    have t1 : (a1 == 0) = false := by simpa using h1
    have t2 : (imul a0 a1 == 0) = false := by simpa using fun h => (hz.mp h).elim h0 h1
    clear h0 h1 hz
    go_enter Try.func7, Try.ntmps7
    go_wp2_with (first | (go_at_call 9; refine (add_any _ _ _ (by assumption) (by assumption)).mono ?_; rintro e w' ⟨rfl, rfl⟩) | (go_at_call 10; refine (mul_any _ _ _ (by assumption) (by assumption)).mono ?_; rintro e w' ⟨rfl, rfl⟩) | (go_at_call 30; refine (anchored_any _).mono ?_; rintro e w' ⟨rfl, rfl⟩))
    go_ret
    exact ⟨rfl, Grown.refl _⟩

/-! ### THE ROW's STEP: WRITTEN OUT: LEAVE IT -/
set_option maxRecDepth 100000 in
theorem lifted (os : Os) (started : os.Started) (H : Type) (enc : TypeId × Value → H) :
    ReturnsInHanded {} Try.checked os 7 .any (Rows.fieldRingSpec.pre6 enc Try.prog Try.f7 Rows.fieldRingRow.domain false) (Rows.fieldRingSpec.post enc Try.prog Try.f7 false true false false) := by
  refine returnsInHanded_of_change (C := Try.checked) own started (by kernel_rfl) Try.func7
    (ChangeSpec.witness6 (enc := enc) (C := Try.checked) false ⟨#[], #[.int .u8 0, .int .u8 0, .int .u8 0], []⟩ 8 (by kernel_rfl) (by kernel_rfl) (by kernel_rfl) (by kernel_rfl)) ?_
  intro W base args ds gs before hval0 hW hcnd _
  have hval : ∀ (j : Nat) t v, Try.f7.params[j]? = some t → args[j]? = some v → Value.okWide Try.prog W .any base t v := hval0
  have hW' := hW
  obtain ⟨p, q, hA0, hV, rfl, hfz, hnd⟩ := hW
  have hA : DataW.TrodAll enc Try.prog W 0 (fun _ => true) true Try.f7.params.toList args.toList ds p := hA0
  rw [Try.params7] at hA hval
  obtain ⟨v0, vs0, d0, ds0, p0, q0, hargs, rfl, rfl, h0, r0⟩ := trodAll_cons hA
  obtain ⟨v1, vs1, d1, ds1, p1, q1, rfl, rfl, rfl, h1, r1⟩ := trodAll_cons r0
  obtain ⟨v2, vs2, d2, ds2, p2, q2, rfl, rfl, rfl, h2, r2⟩ := trodAll_cons r1
  obtain ⟨rfl, rfl, rfl⟩ := trodAll_nil r2
  obtain rfl : args = #[v0, v1, v2] := by cases args; simp_all
  obtain ⟨rfl, rfl⟩ := trodVars_none hV
  obtain ⟨a0, rfl, rfl, rfl, w0⟩ := open_int Try.underlying5 (hval 0 5 v0 rfl rfl) h0
  obtain ⟨a1, rfl, rfl, rfl, w1⟩ := open_int Try.underlying5 (hval 1 5 v1 rfl rfl) h1
  obtain ⟨a2, rfl, rfl, rfl, w2⟩ := open_int Try.underlying5 (hval 2 5 v2 rfl rfl) h2
  clear hA0 hval0
  simp only [List.append_nil] at hW'
  refine (walk a0 a1 a2 w0 w1 w2 W).mono fun e W' ⟨he, hg⟩ => ?_
  subst he
  exact ⟨_, rfl, post_of_same (pa := []) (pv := []) hW' (fun _ _ _ => (trodAll_cons_mk (shut_bool Try.underlying4 _) trodAll_mk0)) (fun sp _ => (trodAll_cons_mk (shut_int Try.underlying5 w0) (trodAll_cons_mk (shut_int Try.underlying5 w1) (trodAll_cons_mk (shut_int Try.underlying5 w2) trodAll_mk0)))) (fun _ _ => rfl) rfl
    (hg.frame _) hg.2.1 (ok_one (by kernel_rfl) rfl (okWide_bool_mk Try.underlying4 _))⟩

theorem over : Rows.fieldRingRow.holds Try.pinned (OpenSpec.ofChange Rows.fieldRingSpec) :=
  OpenClaim.holds_of_wide 7 Try.f7 rfl rfl rfl rfl rfl rfl rfl ⟨rfl, rfl, rfl, rfl, rfl⟩ rfl rfl rfl rfl rfl (by kernel_rfl) Try.func7 (by kernel_rfl)
    (of_decide_eq_true (by kernel_rfl)) (by unfold Func.isWrapper; first | (rw [if_pos (by decide +kernel)]; kernel_rfl) | (rw [if_neg (by decide +kernel)]; exact ⟨rfl, rfl⟩))
    (fun os started H enc _ => lifted os started H enc)

/-- ████ THE STATEMENT ████ -/
theorem proved : Rows.FieldRingSaid :=
  over
#print axioms proved
end Go.Proofs.Ythopljmfeeglpaa.fieldRing
