/-
  Proved: for every set s of the program's: At of its Place is s; Next tells another one just if its Place is not the last, and that one's Place is the next place and its size the same (P6.5); no condition.
-/
import Derived.Test.YtpmhpakjlagfjaaJg
import Derived.Test.YtpmhpakjlagfjaaJh
import Derived.WalkKit
import Derived.ProofKit
import Derived.OpenShut
import Derived.ShutString
namespace Go.Proofs.Ytpmhpakjlagfjaa.subsetBack
open Go.ChangeShapes Go.WideShapes Go.ChangeAt Go.RowKit
open Go.ChangeMaps (open_string shut_string)
set_option linter.unusedVariables false      -- a walk need not use every 'w<i>' (that an integer argument fits its kind)

theorem own : ownKnob Try.prog.godebug = none := by kernel_rfl


/-! ### STEP 1: THE WALK: the Go text returns true. 'Grown w w'': the world has at most new blocks (Derived/RowKit3.lean). Part the cases AHEAD of 'go_enter' where a test parts the walk; take each callee by a contract of your own. -/
set_option maxHeartbeats 400000 in
theorem walk (a0 : Int) (w0 : (Lit.int .u64 a0).wf = true) (w : World) :
    Calls Try.prog 8 #[.int .u64 a0] w fun e w' => e = .returned (.bool true) ∧ Below w.heap.size w w' := by
  obtain ⟨s, rfl, hs⟩ := u64_of_wf6 w0
  have hs2 : s < 2 ^ 64 := hs
  obtain ⟨k, HK⟩ : ∃ k, Hid (cn s 64 = k) := ⟨_, rfl⟩
  obtain ⟨p, HP⟩ : ∃ p, Hid (pla s 64 = p) := ⟨_, rfl⟩
  obtain ⟨c, HC⟩ : ∃ c, Hid (bin 64 k = c) := ⟨_, rfl⟩
  have hk : k ≤ 64 := by rw [← HK.out]; exact cn_le 64 s
  have hpc : p < c := by rw [← HP.out, ← HC.out, ← HK.out]; exact pla_lt 64 s
  have hc6 : c ≤ 1832624140942590534 := by rw [← HC.out]; exact bin_small (Nat.le_refl _)
  have HA : Hid (aset 64 k p = s) := by show _ = _; rw [← HK.out, ← HP.out]; exact aset_pla 64 s hs2
  have H1 : Hid (∀ w : World, Calls Try.prog 28 #[.int .i64 64, .int .u64 (s : Int)] w fun e w' => e = .returned (.tuple #[.int .i64 (p : Int), .int .i64 0]) ∧ Below w.heap.size w w') := fun w => by
    rw [← HP.out]; exact jplace_ok 64 s w (Nat.le_refl _) hs2
  have H2 : Hid (∀ w : World, Calls Try.prog 16 #[.int .u64 (s : Int)] w fun e w' => e = .returned (.int .i64 (k : Int)) ∧ w = w') := fun w => by
    rw [← HK.out]; exact jcount_ok s w hs
  have H3 : Hid (∀ w : World, Calls Try.prog 31 #[.int .i64 64, .int .i64 (k : Int), .int .i64 (p : Int)] w fun e w' => e = .returned (.tuple #[.int .u64 (s : Int), .int .i64 0]) ∧ Below w.heap.size w w') := fun w => by
    have h := jat_ok 64 k p w (Nat.le_refl _) hk (by rw [HC.out]; exact hpc)
    rw [HA.out] at h
    exact h
  have H5 : Hid (∀ w : World, Calls Try.prog 19 #[.int .i64 64, .int .i64 (k : Int)] w fun e w' => e = .returned (.tuple #[.int .i64 (c : Int), .int .i64 0]) ∧ Below w.heap.size w w') := fun w => by
    rw [← HC.out]; exact jchoose_in 64 k w (Nat.le_refl _) hk
  obtain ⟨n1, n2⟩ := nx_pla 64 s hs2
  cases hn : nx s 64 with
  | none =>
    have H4 : Hid (∀ w : World, Calls Try.prog 23 #[.int .i64 64, .int .u64 (s : Int)] w fun e w' => e = .returned (.tuple #[.int .u64 0, .bool false]) ∧ Below w.heap.size w w') := fun w => by
      have h := jnext_ok 64 s w (Nat.le_refl _) hs2
      rw [hn] at h
      exact h
    have hl := n1 hn
    rw [HP.out, HK.out, HC.out] at hl
    have g1 : decide ((p : Int) + 1 < (c : Int)) = false := decide_eq_false (by omega)
    clear HK HP HC HA n1 n2 hn hs2 w0
    go_enter Try.func8, Try.ntmps8
    go_wp2_with (first
      | (go_at_call 25; refine (anch6_any _).mono ?_; rintro e w5 ⟨rfl, hb⟩; have HB5 : Hid (Below w.heap.size w w5) := jtwo HB4.out hb; clear hb)
      | (go_at_call 28; refine (H1.out _).mono ?_; rintro e w1 ⟨rfl, hb⟩; have HB1 : Hid (Below w.heap.size w w1) := hb; clear hb H1)
      | (go_at_call 16; refine (H2.out _).mono ?_; rintro e w' ⟨rfl, rfl⟩; clear H2)
      | (go_at_call 31; refine (H3.out _).mono ?_; rintro e w2 ⟨rfl, hb⟩; have HB2 : Hid (Below w.heap.size w w2) := jtwo HB1.out hb; clear hb H3)
      | (go_at_call 23; refine (H4.out _).mono ?_; rintro e w3 ⟨rfl, hb⟩; have HB3 : Hid (Below w.heap.size w w3) := jtwo HB2.out hb; clear hb H4)
      | (go_at_call 19; refine (H5.out _).mono ?_; rintro e w4 ⟨rfl, hb⟩; have HB4 : Hid (Below w.heap.size w w4) := jtwo HB3.out hb; clear hb H5))
    go_ret
    exact ⟨rfl, HB5.out⟩
  | some u =>
    have H4 : Hid (∀ w : World, Calls Try.prog 23 #[.int .i64 64, .int .u64 (s : Int)] w fun e w' => e = .returned (.tuple #[.int .u64 (u : Int), .bool true]) ∧ Below w.heap.size w w') := fun w => by
      have h := jnext_ok 64 s w (Nat.le_refl _) hs2
      rw [hn] at h
      exact h
    obtain ⟨hu, hcu, hpu⟩ := n2 u hn
    rw [HK.out] at hcu
    rw [HP.out] at hpu
    have hlt := pla_lt 64 u
    rw [hcu, hpu, HC.out] at hlt
    obtain ⟨q, hq⟩ : ∃ q, p + 1 = q := ⟨_, rfl⟩
    have e1 : (p : Int) + 1 = (q : Int) := by omega
    have H6 : Hid (∀ w : World, Calls Try.prog 28 #[.int .i64 64, .int .u64 (u : Int)] w fun e w' => e = .returned (.tuple #[.int .i64 (q : Int), .int .i64 0]) ∧ Below w.heap.size w w') := fun w => by
      rw [← hq, ← hpu]; exact jplace_ok 64 u w (Nat.le_refl _) hu
    have H7 : Hid (∀ w : World, Calls Try.prog 16 #[.int .u64 (u : Int)] w fun e w' => e = .returned (.int .i64 (k : Int)) ∧ w = w') := fun w => by
      rw [← hcu]; exact jcount_ok u w hu
    have g1 : decide ((q : Int) < (c : Int)) = true := decide_eq_true (by omega)
    have g2 : decide (q < c) = true := decide_eq_true (by omega)
    clear HK HP HC HA n1 n2 hn hs2 w0 hu hcu hpu
    go_enter Try.func8, Try.ntmps8
    go_wp2_with (first
      | (go_at_call 25; refine (anch6_any _).mono ?_; rintro e w6 ⟨rfl, hb⟩; have HB6 : Hid (Below w.heap.size w w6) := jtwo HB5.out hb; clear hb)
      | (go_at_call 28; refine (H1.out _).mono ?_; rintro e w1 ⟨rfl, hb⟩; have HB1 : Hid (Below w.heap.size w w1) := hb; clear hb H1)
      | (go_at_call 28; refine (H6.out _).mono ?_; rintro e w5 ⟨rfl, hb⟩; have HB5 : Hid (Below w.heap.size w w5) := jtwo HB4.out hb; clear hb H6)
      | (go_at_call 16; refine (H2.out _).mono ?_; rintro e w' ⟨rfl, rfl⟩; clear H2)
      | (go_at_call 16; refine (H7.out _).mono ?_; rintro e w' ⟨rfl, rfl⟩; clear H7)
      | (go_at_call 31; refine (H3.out _).mono ?_; rintro e w2 ⟨rfl, hb⟩; have HB2 : Hid (Below w.heap.size w w2) := jtwo HB1.out hb; clear hb H3)
      | (go_at_call 23; refine (H4.out _).mono ?_; rintro e w3 ⟨rfl, hb⟩; have HB3 : Hid (Below w.heap.size w w3) := jtwo HB2.out hb; clear hb H4)
      | (go_at_call 19; refine (H5.out _).mono ?_; rintro e w4 ⟨rfl, hb⟩; have HB4 : Hid (Below w.heap.size w w4) := jtwo HB3.out hb; clear hb H5))
    go_ret
    exact ⟨rfl, HB6.out⟩

/-! ### THE ROW's STEP: WRITTEN OUT: LEAVE IT -/
set_option maxRecDepth 100000 in
theorem lifted (os : Os) (started : os.Started) (H : Type) (enc : TypeId × Value → H) :
    ReturnsInHanded {} Try.checked os 8 .any (Rows.subsetBackSpec.pre6 enc Try.prog Try.f8 Rows.subsetBackRow.domain false) (Rows.subsetBackSpec.post enc Try.prog Try.f8 false true false false) := by
  refine returnsInHanded_of_change (C := Try.checked) own started (by kernel_rfl) Try.func8
    (ChangeSpec.witness6 (enc := enc) (C := Try.checked) false ⟨#[], #[.int .u64 0], []⟩ 8 (by kernel_rfl) (by kernel_rfl) (by kernel_rfl) (by kernel_rfl)) ?_
  intro W base args ds gs before hval0 hW hcnd _
  have hval : ∀ (j : Nat) t v, Try.f8.params[j]? = some t → args[j]? = some v → Value.okWide Try.prog W .any base t v := hval0
  have hW' := hW
  obtain ⟨p, q, hA0, hV, rfl, hfz, hnd⟩ := hW
  have hA : DataW.TrodAll enc Try.prog W 0 (fun _ => true) true Try.f8.params.toList args.toList ds p := hA0
  rw [Try.params8] at hA hval
  obtain ⟨v0, vs0, d0, ds0, p0, q0, hargs, rfl, rfl, h0, r0⟩ := trodAll_cons hA
  obtain ⟨rfl, rfl, rfl⟩ := trodAll_nil r0
  obtain rfl : args = #[v0] := by cases args; simp_all
  obtain ⟨rfl, rfl⟩ := trodVars_none hV
  obtain ⟨a0, rfl, rfl, rfl, w0⟩ := open_int Try.underlying24 (hval 0 24 v0 rfl rfl) h0
  clear hA0 hval0
  simp only [List.append_nil] at hW'
  refine (walk a0 w0 W).mono fun e W' ⟨he, hg⟩ => ?_
  subst he
  exact ⟨_, rfl, _, _, _, [], _, [], hW', trodAll_mk1 (shut_bool Try.underlying4 _), (trodAll_cons_mk (shut_int Try.underlying24 w0) trodAll_mk0), rfl, hg.frame _, fun h => by cases h⟩

theorem over : Rows.subsetBackRow.holds Try.pinned (OpenSpec.ofChange Rows.subsetBackSpec) :=
  OpenClaim.holds_of_wide 8 Try.f8 rfl rfl rfl rfl rfl rfl rfl ⟨rfl, rfl, rfl, rfl, rfl⟩ rfl rfl rfl rfl rfl (by kernel_rfl) Try.func8 (by kernel_rfl)
    (of_decide_eq_true (by kernel_rfl)) (by unfold Func.isWrapper; first | (rw [if_pos (by decide +kernel)]; kernel_rfl) | (rw [if_neg (by decide +kernel)]; exact ⟨rfl, rfl⟩))
    (fun os started H enc _ => lifted os started H enc)

/-- ████ THE STATEMENT ████ -/
theorem proved : Rows.SubsetBackSaid :=
  over
#print axioms proved
end Go.Proofs.Ytpmhpakjlagfjaa.subsetBack
