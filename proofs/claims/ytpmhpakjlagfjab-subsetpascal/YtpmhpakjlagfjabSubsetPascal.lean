/-
  Proved: for every n below 64 and every k below 66 the program's Choose of n + 1 and k is the sum of the two of n, and Upto of k is Upto of k - 1 and Choose together, or n is 63 and there are too many (P6.5); no condition.
-/
import Derived.Test.YtpmhpakjlagfjabJg
import Derived.WalkKit
import Derived.ProofKit
import Derived.OpenShut
import Derived.ShutString
namespace Go.Proofs.Ytpmhpakjlagfjab.subsetPascal
open Go.ChangeShapes Go.WideShapes Go.ChangeAt Go.RowKit
open Go.ChangeMaps (open_string shut_string)
set_option linter.unusedVariables false      -- a walk need not use every 'w<i>' (that an integer argument fits its kind)

theorem own : ownKnob Try.prog.godebug = none := by kernel_rfl

theorem u8_of_wf6 {n : Int} (h : (Lit.int .u8 n).wf = true) : ∃ x : Nat, n = (x : Int) ∧ x < 256 := by
  simp [Lit.wf, IntKind.min, IntKind.max, IntKind.signed, IntKind.bits] at h
  exact ⟨n.toNat, by omega, by omega⟩
theorem chs_pascal (M J : Nat) : chs ((M + 1 : Nat) : Int) J = chs M ((J : Int) - 1) + chs M J := by
  rw [chs_nat, chs_nat]
  cases J with
  | zero => rw [show chs M ((0 : Nat) - 1 : Int) = 0 from if_neg (by omega), bin_zero, bin_zero]
  | succ J =>
    rw [show ((J + 1 : Nat) : Int) - 1 = (J : Int) by omega, chs_nat, bin_succ]
    omega
theorem upv_step (M J : Nat) : upv M J = upv M ((J : Int) - 1) + chs M J := by
  rw [chs_nat]
  unfold upv
  by_cases h : J ≤ M
  · rw [show (min (J : Int) M + 1).toNat = J + 1 by omega, show (min ((J : Int) - 1) M + 1).toNat = J by omega]
    rfl
  · rw [show (min (J : Int) M + 1).toNat = M + 1 by omega, show (min ((J : Int) - 1) M + 1).toNat = M + 1 by omega, bin_above M J (by omega)]
    rfl
theorem upv_le (M : Nat) (t : Int) : upv M t ≤ 2 ^ M := upt6_le _ _
theorem upa_yes {u : Nat} (h : u ≤ 4611686018427387904) : upa u = #[.int .i64 (u : Int), .int .i64 0] := if_pos h
theorem upa_no {u : Nat} (h : ¬ u ≤ 4611686018427387904) : upa u = #[.int .i64 0, .int .i64 4] := if_neg h

/-! ### STEP 1: THE WALK: the Go text returns true. 'Grown w w'': the world has at most new blocks (Derived/RowKit3.lean). Part the cases AHEAD of 'go_enter' where a test parts the walk; take each callee by a contract of your own. -/
set_option maxHeartbeats 400000 in
theorem walk (a0 : Int) (a1 : Int) (w0 : (Lit.int .u8 a0).wf = true) (w1 : (Lit.int .u8 a1).wf = true) (w : World) :
    Calls Try.prog 3 #[.int .u8 a0, .int .u8 a1] w fun e w' => e = .returned (.bool true) ∧ Below w.heap.size w w' := by
  obtain ⟨x, rfl, hx⟩ := u8_of_wf6 w0
  obtain ⟨y, rfl, hy⟩ := u8_of_wf6 w1
  obtain ⟨M, hM⟩ : ∃ M, x % 64 = M := ⟨_, rfl⟩
  obtain ⟨J, hJ⟩ : ∃ J, y % 66 = J := ⟨_, rfl⟩
  obtain ⟨M1, hM1⟩ : ∃ M1, M + 1 = M1 := ⟨_, rfl⟩
  obtain ⟨K, hK⟩ : ∃ K : Int, (J : Int) - 1 = K := ⟨_, rfl⟩
  have hm : (x : Int) % 64 = (M : Int) := by omega
  have hj : (y : Int) % 66 = (J : Int) := by omega
  have hm1 : (M : Int) + 1 = (M1 : Int) := by omega
  obtain ⟨a, HA⟩ : ∃ a, Hid (chs M1 J = a) := ⟨_, rfl⟩
  obtain ⟨b, HBB⟩ : ∃ b, Hid (chs M K = b) := ⟨_, rfl⟩
  obtain ⟨c, HCC⟩ : ∃ c, Hid (chs M J = c) := ⟨_, rfl⟩
  obtain ⟨u, HU⟩ : ∃ u, Hid (upv M J = u) := ⟨_, rfl⟩
  obtain ⟨v, HV⟩ : ∃ v, Hid (upv M K = v) := ⟨_, rfl⟩
  have h1 : a = b + c := by rw [← HA.out, ← HBB.out, ← HCC.out, ← hM1, ← hK]; exact chs_pascal M J
  have h2 : u = v + c := by rw [← HU.out, ← HV.out, ← HCC.out, ← hK]; exact upv_step M J
  have ha6 : a ≤ 1832624140942590534 := by rw [← HA.out, chs_nat]; exact bin_small (by omega)
  have H1 : Hid (∀ w : World, Calls Try.prog 4 #[.int .i64 (M1 : Int), .int .i64 (J : Int)] w fun e w' => e = .returned (.tuple #[.int .i64 (a : Int), .int .i64 0]) ∧ Below w.heap.size w w') := fun w => by
    rw [← HA.out]; exact jchoose_ok M1 J w (by omega)
  have H2 : Hid (∀ w : World, Calls Try.prog 4 #[.int .i64 (M : Int), .int .i64 K] w fun e w' => e = .returned (.tuple #[.int .i64 (b : Int), .int .i64 0]) ∧ Below w.heap.size w w') := fun w => by
    rw [← HBB.out]; exact jchoose_ok M K w (by omega)
  have H3 : Hid (∀ w : World, Calls Try.prog 4 #[.int .i64 (M : Int), .int .i64 (J : Int)] w fun e w' => e = .returned (.tuple #[.int .i64 (c : Int), .int .i64 0]) ∧ Below w.heap.size w w') := fun w => by
    rw [← HCC.out]; exact jchoose_ok M J w (by omega)
  have he : (b : Int) + (c : Int) = (a : Int) := by omega
  have heu : (v : Int) + (c : Int) = (u : Int) := by omega
  have hJ66 : J < 66 := by omega
  by_cases hbig : u ≤ 4611686018427387904
  · have H4 : Hid (∀ w : World, Calls Try.prog 5 #[.int .i64 (M : Int), .int .i64 (J : Int)] w fun e w' => e = .returned (.tuple #[.int .i64 (u : Int), .int .i64 0]) ∧ Below w.heap.size w w') := fun w => by
      rw [← upa_yes hbig, ← HU.out]; exact jupto_ok M J w (by omega)
    have H5 : Hid (∀ w : World, Calls Try.prog 5 #[.int .i64 (M : Int), .int .i64 K] w fun e w' => e = .returned (.tuple #[.int .i64 (v : Int), .int .i64 0]) ∧ Below w.heap.size w w') := fun w => by
      rw [← upa_yes (show v ≤ 4611686018427387904 by omega), ← HV.out]; exact jupto_ok M K w (by omega)
    clear h1 h2 HA HBB HCC HU HV hM hJ hM1 w0 w1
    go_enter Try.func3, Try.ntmps3
    go_wp2_with (first
      | (go_at_call 6; refine (anch6_any _).mono ?_; rintro e w6 ⟨rfl, hb⟩; have HB6 : Hid (Below w.heap.size w w6) := jtwo HB5.out hb; clear hb)
      | (go_at_call 4; refine (H1.out _).mono ?_; rintro e w1 ⟨rfl, hb⟩; have HB1 : Hid (Below w.heap.size w w1) := hb; clear hb H1)
      | (go_at_call 4; refine (H2.out _).mono ?_; rintro e w2 ⟨rfl, hb⟩; have HB2 : Hid (Below w.heap.size w w2) := jtwo HB1.out hb; clear hb H2)
      | (go_at_call 4; refine (H3.out _).mono ?_; rintro e w3 ⟨rfl, hb⟩; have HB3 : Hid (Below w.heap.size w w3) := jtwo HB2.out hb; clear hb H3)
      | (go_at_call 5; refine (H4.out _).mono ?_; rintro e w4 ⟨rfl, hb⟩; have HB4 : Hid (Below w.heap.size w w4) := jtwo HB3.out hb; clear hb H4)
      | (go_at_call 5; refine (H5.out _).mono ?_; rintro e w5 ⟨rfl, hb⟩; have HB5 : Hid (Below w.heap.size w w5) := jtwo HB4.out hb; clear hb H5))
    go_ret
    exact ⟨rfl, HB6.out⟩
  · have hM63 : M = 63 := by
      apply Classical.byContradiction
      intro hne
      have h3 := upv_le M J
      have h4 := Nat.pow_le_pow_right (n := 2) (by decide) (show M ≤ 62 by omega)
      rw [HU.out] at h3
      exact hbig (Nat.le_trans h3 h4)
    have hM64 : (M : Int) = 63 := by omega
    have hq : ((M : Int) == 63) = true := by rw [hM64]; rfl
    have H4 : Hid (∀ w : World, Calls Try.prog 5 #[.int .i64 (M : Int), .int .i64 (J : Int)] w fun e w' => e = .returned (.tuple #[.int .i64 0, .int .i64 4]) ∧ Below w.heap.size w w') := fun w => by
      rw [← upa_no hbig, ← HU.out]; exact jupto_ok M J w (by omega)
    obtain ⟨T, HT⟩ : ∃ T, Hid (upa v = T) := ⟨_, rfl⟩
    obtain ⟨t1, t2, HT2⟩ : ∃ t1 t2 : Nat, Hid (T = #[.int .i64 (t1 : Int), .int .i64 (t2 : Int)]) := by
      rw [← HT.out]
      by_cases hv : v ≤ 4611686018427387904
      · exact ⟨v, 0, upa_yes hv⟩
      · exact ⟨0, 4, upa_no hv⟩
    have H5 : Hid (∀ w : World, Calls Try.prog 5 #[.int .i64 (M : Int), .int .i64 K] w fun e w' => e = .returned (.tuple #[.int .i64 (t1 : Int), .int .i64 (t2 : Int)]) ∧ Below w.heap.size w w') := fun w => by
      rw [← HT2.out, ← HT.out, ← HV.out]; exact jupto_ok M K w (by omega)
    clear h1 h2 HA HBB HCC HU HV hM hJ hM1 w0 w1 HT HT2 hM63 hM64
    go_enter Try.func3, Try.ntmps3
    go_wp2_with (first
      | (go_at_call 6; refine (anch6_any _).mono ?_; rintro e w6 ⟨rfl, hb⟩; have HB6 : Hid (Below w.heap.size w w6) := jtwo HB5.out hb; clear hb)
      | (go_at_call 4; refine (H1.out _).mono ?_; rintro e w1 ⟨rfl, hb⟩; have HB1 : Hid (Below w.heap.size w w1) := hb; clear hb H1)
      | (go_at_call 4; refine (H2.out _).mono ?_; rintro e w2 ⟨rfl, hb⟩; have HB2 : Hid (Below w.heap.size w w2) := jtwo HB1.out hb; clear hb H2)
      | (go_at_call 4; refine (H3.out _).mono ?_; rintro e w3 ⟨rfl, hb⟩; have HB3 : Hid (Below w.heap.size w w3) := jtwo HB2.out hb; clear hb H3)
      | (go_at_call 5; refine (H4.out _).mono ?_; rintro e w4 ⟨rfl, hb⟩; have HB4 : Hid (Below w.heap.size w w4) := jtwo HB3.out hb; clear hb H4)
      | (go_at_call 5; refine (H5.out _).mono ?_; rintro e w5 ⟨rfl, hb⟩; have HB5 : Hid (Below w.heap.size w w5) := jtwo HB4.out hb; clear hb H5))
    go_ret
    exact ⟨rfl, HB6.out⟩

/-! ### THE ROW's STEP: WRITTEN OUT: LEAVE IT -/
set_option maxRecDepth 100000 in
theorem lifted (os : Os) (started : os.Started) (H : Type) (enc : TypeId × Value → H) :
    ReturnsInHanded {} Try.checked os 3 .any (Rows.subsetPascalSpec.pre6 enc Try.prog Try.f3 Rows.subsetPascalRow.domain false) (Rows.subsetPascalSpec.post enc Try.prog Try.f3 false true false false) := by
  refine returnsInHanded_of_change (C := Try.checked) own started (by kernel_rfl) Try.func3
    (ChangeSpec.witness6 (enc := enc) (C := Try.checked) false ⟨#[], #[.int .u8 0, .int .u8 0], []⟩ 8 (by kernel_rfl) (by kernel_rfl) (by kernel_rfl) (by kernel_rfl)) ?_
  intro W base args ds gs before hval0 hW hcnd _
  have hval : ∀ (j : Nat) t v, Try.f3.params[j]? = some t → args[j]? = some v → Value.okWide Try.prog W .any base t v := hval0
  have hW' := hW
  obtain ⟨p, q, hA0, hV, rfl, hfz, hnd⟩ := hW
  have hA : DataW.TrodAll enc Try.prog W 0 (fun _ => true) true Try.f3.params.toList args.toList ds p := hA0
  rw [Try.params3] at hA hval
  obtain ⟨v0, vs0, d0, ds0, p0, q0, hargs, rfl, rfl, h0, r0⟩ := trodAll_cons hA
  obtain ⟨v1, vs1, d1, ds1, p1, q1, rfl, rfl, rfl, h1, r1⟩ := trodAll_cons r0
  obtain ⟨rfl, rfl, rfl⟩ := trodAll_nil r1
  obtain rfl : args = #[v0, v1] := by cases args; simp_all
  obtain ⟨rfl, rfl⟩ := trodVars_none hV
  obtain ⟨a0, rfl, rfl, rfl, w0⟩ := open_int Try.underlying5 (hval 0 5 v0 rfl rfl) h0
  obtain ⟨a1, rfl, rfl, rfl, w1⟩ := open_int Try.underlying5 (hval 1 5 v1 rfl rfl) h1
  clear hA0 hval0
  simp only [List.append_nil] at hW'
  refine (walk a0 a1 w0 w1 W).mono fun e W' ⟨he, hg⟩ => ?_
  subst he
  exact ⟨_, rfl, _, _, _, [], _, [], hW', trodAll_mk1 (shut_bool Try.underlying4 _), (trodAll_cons_mk (shut_int Try.underlying5 w0) (trodAll_cons_mk (shut_int Try.underlying5 w1) trodAll_mk0)), rfl, hg.frame _, fun h => by cases h⟩

theorem over : Rows.subsetPascalRow.holds Try.pinned (OpenSpec.ofChange Rows.subsetPascalSpec) :=
  OpenClaim.holds_of_wide 3 Try.f3 rfl rfl rfl rfl rfl rfl rfl ⟨rfl, rfl, rfl, rfl, rfl⟩ rfl rfl rfl rfl rfl (by kernel_rfl) Try.func3 (by kernel_rfl)
    (of_decide_eq_true (by kernel_rfl)) (by unfold Func.isWrapper; first | (rw [if_pos (by decide +kernel)]; kernel_rfl) | (rw [if_neg (by decide +kernel)]; exact ⟨rfl, rfl⟩))
    (fun os started H enc _ => lifted os started H enc)

/-- ████ THE STATEMENT ████ -/
theorem proved : Rows.SubsetPascalSaid :=
  over
#print axioms proved
end Go.Proofs.Ytpmhpakjlagfjab.subsetPascal
