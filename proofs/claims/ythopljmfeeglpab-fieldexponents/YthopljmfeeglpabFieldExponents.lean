/-
  Proved: for every byte a and all int8 m and n the exponents of a power add up, and a power of a power is that with the product (P1.3); of a 0 only that its power 0 is 1; no condition.
-/
import Derived.Test.YthopljmfeeglpabWg
import Derived.WalkKit
import Derived.ProofKit
import Derived.OpenShut
import Derived.ShutString
namespace Go.Proofs.Ythopljmfeeglpab.fieldExponents
open Go.ChangeShapes Go.WideShapes Go.ChangeAt Go.RowKit
open Go.ChangeMaps (open_string shut_string)
set_option linter.unusedVariables false      -- a walk need not use every 'w<i>' (that an integer argument fits its kind)

theorem own : ownKnob Try.prog.godebug = none := by kernel_rfl

theorem i8_of_wf {n : Int} (h : (Lit.int .i8 n).wf = true) : -128 ≤ n ∧ n ≤ 127 := by
  simp [Lit.wf, IntKind.min, IntKind.max, IntKind.signed, IntKind.bits] at h
  omega
/-- The power of an element that is not 0, by its exponent of 2. -/
theorem pwv_g (x : Nat) (n : Int) (hx : x < 256) (h0 : x ≠ 0) : pwv x n = g (lg x * (inb n).toNat) := by
  rw [pwv_times x n hx h0, fpow_lg x _ hx h0]
theorem g_same (a b : Nat) (h : a % 255 = b % 255) : g a = g b := by rw [← g_mod a, h, g_mod]
theorem inb_add (m n : Int) : ((inb m).toNat + (inb n).toNat) % 255 = (inb (m + n)).toNat % 255 := by unfold inb; omega
theorem inb_mul (m n : Int) : ((inb m).toNat * (inb n).toNat) % 255 = (inb (m * n)).toNat % 255 := by
  have h1 := inb_bd m
  have h2 := inb_bd n
  have h3 := inb_bd (m * n)
  have key : (inb m * inb n) % 255 = inb (m * n) := by unfold inb; rw [← Int.mul_emod]
  obtain ⟨p, hp⟩ := Int.eq_ofNat_of_zero_le h1.1
  obtain ⟨q, hq⟩ := Int.eq_ofNat_of_zero_le h2.1
  obtain ⟨r, hr⟩ := Int.eq_ofNat_of_zero_le h3.1
  rw [hp, hq, hr] at key
  rw [hp, hq, hr]
  simp only [Int.toNat_natCast]
  have e : ((p * q % 255 : Nat) : Int) = (r : Int) := key
  omega
theorem pow_add (x : Nat) (m n : Int) (hx : x < 256) (h0 : x ≠ 0) : fm (pwv x m) (pwv x n) = pwv x (m + n) := by
  rw [pwv_g x m hx h0, pwv_g x n hx h0, pwv_g x _ hx h0, fm_g, ← Nat.mul_add]
  apply g_same
  rw [Nat.mul_mod, inb_add, ← Nat.mul_mod]
theorem pwv_ne (x : Nat) (n : Int) (hx : x < 256) (h0 : x ≠ 0) : pwv x n ≠ 0 := by
  rw [pwv_g x n hx h0]; exact g_pos _
theorem pow_mul (x : Nat) (m n : Int) (hx : x < 256) (h0 : x ≠ 0) : pwv (pwv x m) n = pwv x (m * n) := by
  rw [pwv_times _ n (pwv_lt x m) (pwv_ne x m hx h0), pwv_g x m hx h0, fpow_g, pwv_g x _ hx h0, Nat.mul_assoc]
  apply g_same
  rw [Nat.mul_mod, inb_mul, ← Nat.mul_mod]
theorem pwe_ne (x : Nat) (n : Int) (h0 : x ≠ 0) : pwe x n = 0 := by simp [pwe, h0]
theorem five_below {w w1 w2 w3 w4 w5 : World} (h1 : Below w.heap.size w w1) (h2 : Below w1.heap.size w1 w2) (h3 : Below w2.heap.size w2 w3) (h4 : Below w3.heap.size w3 w4) (h5 : Below w4.heap.size w4 w5) : Below w.heap.size w w5 := two_below (two_below (two_below (two_below h1 h2) h3) h4) h5

/-! ### STEP 1: THE WALK: the Go text returns true. 'Grown w w'': the world has at most new blocks (Derived/RowKit3.lean). Part the cases AHEAD of 'go_enter' where a test parts the walk; take each callee by a contract of your own. -/
set_option maxHeartbeats 400000 in
theorem walk (a0 : Int) (a1 : Int) (a2 : Int) (w0 : (Lit.int .u8 a0).wf = true) (w1 : (Lit.int .i8 a1).wf = true) (w2 : (Lit.int .i8 a2).wf = true) (w : World) :
    Calls Try.prog 4 #[.int .u8 a0, .int .i8 a1, .int .i8 a2] w fun e w' => e = .returned (.bool true) ∧ Below w.heap.size w w' := by
  obtain ⟨b0, b0'⟩ := byte_of_wf w0
  obtain ⟨x, rfl⟩ := Int.eq_ofNat_of_zero_le b0
  have hx : x < 256 := by omega
  obtain ⟨m1, m2⟩ := i8_of_wf w1
  obtain ⟨n1, n2⟩ := i8_of_wf w2
  clear w0 w1 w2 b0 b0'
  by_cases h0 : x = 0
  · have t0 : ((x : Int) == 0) = true := by simpa using h0
    have HP : Hid (∀ w, Calls Try.prog 11 #[.int .u8 0, .int .i64 0] w fun e w' => e = .returned (.tuple #[.int .u8 1, .int .i64 0]) ∧ Below w.heap.size w w') := fun w => pow_any 0 0 w (by decide) ⟨by decide, by decide⟩
    clear h0
    go_enter Try.func4, Try.ntmps4
    go_wp2_with (first
      | (go_at_call 11; refine (HP.out _).mono ?_; rintro e w1 ⟨rfl, hb1⟩)
      | (go_at_call 8; refine (anchored_any _).mono ?_; rintro e w' ⟨rfl, hwq⟩; subst hwq))
    go_ret
    exact ⟨rfl, by assumption⟩
  · have t0 : ((x : Int) == 0) = false := by simpa using h0
    have e1 := pwe_ne x a1 h0
    have e2 := pwe_ne x a2 h0
    have e3 := pwe_ne x (a1 + a2) h0
    have e4 := pwe_ne (pwv x a1) a2 (pwv_ne x a1 hx h0)
    have e5 := pwe_ne x (a1 * a2) h0
    have e6 := pow_add x a1 a2 hx h0
    have e7 := pow_mul x a1 a2 hx h0
    have p1 := pwv_lt x a1
    have p2 := pwv_lt x a2
    have HM : Hid (-16384 ≤ a1 * a2 ∧ a1 * a2 ≤ 16384) := by
      have h := Int.natAbs_mul a1 a2
      have h2 : a1.natAbs * a2.natAbs ≤ 128 * 128 := Nat.mul_le_mul (by omega) (by omega)
      show _ ∧ _
      omega
    have hq := HM.out.1
    have hq2 := HM.out.2
    clear h0
    go_enter Try.func4, Try.ntmps4
    go_wp2_with (first
      | (go_at_call 11; refine (pow_any _ _ _ (by assumption) ⟨by omega, by omega⟩).mono ?_; rintro e w1 ⟨rfl, hb1⟩)
      | (go_at_call 9; refine (mul_nat _ _ _ p1 p2).mono ?_; rintro e w' ⟨rfl, hwq⟩; subst hwq)
      | (go_at_call 8; refine (anchored_any _).mono ?_; rintro e w' ⟨rfl, hwq⟩; subst hwq))
    go_ret
    exact ⟨rfl, five_below (by assumption) (by assumption) (by assumption) (by assumption) (by assumption)⟩

/-! ### THE ROW's STEP: WRITTEN OUT: LEAVE IT -/
set_option maxRecDepth 100000 in
theorem lifted (os : Os) (started : os.Started) (H : Type) (enc : TypeId × Value → H) :
    ReturnsInHanded {} Try.checked os 4 .any (Rows.fieldExponentsSpec.pre6 enc Try.prog Try.f4 Rows.fieldExponentsRow.domain false) (Rows.fieldExponentsSpec.post enc Try.prog Try.f4 false true false false) := by
  refine returnsInHanded_of_change (C := Try.checked) own started (by kernel_rfl) Try.func4
    (ChangeSpec.witness6 (enc := enc) (C := Try.checked) false ⟨#[], #[.int .u8 0, .int .i8 0, .int .i8 0], []⟩ 8 (by kernel_rfl) (by kernel_rfl) (by kernel_rfl) (by kernel_rfl)) ?_
  intro W base args ds gs before hval0 hW hcnd _
  have hval : ∀ (j : Nat) t v, Try.f4.params[j]? = some t → args[j]? = some v → Value.okWide Try.prog W .any base t v := hval0
  have hW' := hW
  obtain ⟨p, q, hA0, hV, rfl, hfz, hnd⟩ := hW
  have hA : DataW.TrodAll enc Try.prog W 0 (fun _ => true) true Try.f4.params.toList args.toList ds p := hA0
  rw [Try.params4] at hA hval
  obtain ⟨v0, vs0, d0, ds0, p0, q0, hargs, rfl, rfl, h0, r0⟩ := trodAll_cons hA
  obtain ⟨v1, vs1, d1, ds1, p1, q1, rfl, rfl, rfl, h1, r1⟩ := trodAll_cons r0
  obtain ⟨v2, vs2, d2, ds2, p2, q2, rfl, rfl, rfl, h2, r2⟩ := trodAll_cons r1
  obtain ⟨rfl, rfl, rfl⟩ := trodAll_nil r2
  obtain rfl : args = #[v0, v1, v2] := by cases args; simp_all
  obtain ⟨rfl, rfl⟩ := trodVars_none hV
  obtain ⟨a0, rfl, rfl, rfl, w0⟩ := open_int Try.underlying5 (hval 0 5 v0 rfl rfl) h0
  obtain ⟨a1, rfl, rfl, rfl, w1⟩ := open_int Try.underlying29 (hval 1 29 v1 rfl rfl) h1
  obtain ⟨a2, rfl, rfl, rfl, w2⟩ := open_int Try.underlying29 (hval 2 29 v2 rfl rfl) h2
  clear hA0 hval0
  simp only [List.append_nil] at hW'
  refine (walk a0 a1 a2 w0 w1 w2 W).mono fun e W' ⟨he, hg⟩ => ?_
  subst he
  exact ⟨_, rfl, _, _, _, [], _, [], hW', trodAll_mk1 (shut_bool Try.underlying4 _), (trodAll_cons_mk (shut_int Try.underlying5 w0) (trodAll_cons_mk (shut_int Try.underlying29 w1) (trodAll_cons_mk (shut_int Try.underlying29 w2) trodAll_mk0))), rfl, hg.frame _, fun h => by cases h⟩

theorem over : Rows.fieldExponentsRow.holds Try.pinned (OpenSpec.ofChange Rows.fieldExponentsSpec) :=
  OpenClaim.holds_of_wide 4 Try.f4 rfl rfl rfl rfl rfl rfl rfl ⟨rfl, rfl, rfl, rfl, rfl⟩ rfl rfl rfl rfl rfl (by kernel_rfl) Try.func4 (by kernel_rfl)
    (of_decide_eq_true (by kernel_rfl)) (by unfold Func.isWrapper; first | (rw [if_pos (by decide +kernel)]; kernel_rfl) | (rw [if_neg (by decide +kernel)]; exact ⟨rfl, rfl⟩))
    (fun os started H enc _ => lifted os started H enc)

/-- ████ THE STATEMENT ████ -/
theorem proved : Rows.FieldExponentsSaid :=
  over
#print axioms proved
end Go.Proofs.Ythopljmfeeglpab.fieldExponents
