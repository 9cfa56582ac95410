/-
  Proved: for every number of domains from 1 to 64 and every d and r each domain stands in its aisle, each aisle is that of any of its domains, all aisles together are all domains, and what is near is near the other way round (P15.5); no condition.
-/
import Derived.Test.YtfajmoiffjbcbabK1h
import Derived.Test.YtfajmoiffjbcbabK1o
import Derived.Test.YtfajmoiffjbcbabJl
import Derived.WalkKit
import Derived.ProofKit
import Derived.OpenShut
import Derived.ShutString
namespace Go.Proofs.Ytfajmoiffjbcbab.floorParted
open Go.ChangeShapes Go.WideShapes Go.ChangeAt Go.RowKit
open Go.ChangeMaps (open_string shut_string)
set_option linter.unusedVariables false      -- a walk need not use every 'w<i>' (that an integer argument fits its kind)

theorem own : ownKnob Try.prog.godebug = none := by kernel_rfl

theorem u8_of_wf15 {n : Int} (h : (Lit.int .u8 n).wf = true) : ∃ x : Nat, n = (x : Int) ∧ x < 256 := by
  simp [Lit.wf, IntKind.min, IntKind.max, IntKind.signed, IntKind.bits] at h
  exact ⟨n.toNat, by omega, by omega⟩
theorem tb_gst {p : Nat → Bool} {n i : Nat} : (gst p n).testBit i = (decide (i < n) && p i) := by
  rw [Nat.testBit_eq_decide_div_mod_eq]
  have h := bt_gst (p := p) (n := n) (i := i)
  unfold bt at h
  rw [h]
  by_cases h1 : i < n
  · cases h2 : p i <;> simp [h1]
  · simp [h1]
theorem gst_or2 {p q : Nat → Bool} {n : Nat} : gst p n ||| gst q n = gst (fun k => p k || q k) n := by
  apply Nat.eq_of_testBit_eq
  intro i
  rw [Nat.testBit_or, tb_gst, tb_gst, tb_gst]
  cases decide (i < n) <;> simp
theorem gst_full {p : Nat → Bool} {n : Nat} (h : ∀ i, i < n → p i = true) : gst p n = 2 ^ n - 1 := by
  apply Nat.eq_of_testBit_eq
  intro i
  rw [tb_gst, Nat.testBit_two_pow_sub_one]
  by_cases h1 : i < n
  · simp [h1, h i h1]
  · simp [h1]
theorem gst_none (n : Nat) : gst (fun _ => false) n = 0 := by
  apply Nat.eq_of_testBit_eq
  intro i
  rw [tb_gst]
  simp
theorem out_none {a M : Nat} (hM : M ≤ 64) (h : a < 2 ^ M) : bits .andNot .u64 (a : Int) ((2 ^ M - 1 : Nat) : Int) = 0 := by
  have h64 : (2 : Nat) ^ M ≤ 18446744073709551616 := Nat.pow_le_pow_right (n := 2) (by decide) hM
  have hp : 0 < 2 ^ M := Nat.two_pow_pos M
  rw [u64_andNot_nat a (2 ^ M - 1) (by omega) (by omega)]
  have e : 18446744073709551615 - (2 ^ M - 1) = 2 ^ M * (2 ^ (64 - M) - 1) := by
    rw [Nat.mul_sub, ← Nat.pow_add, show M + (64 - M) = 64 by omega, Nat.mul_one]
    have : (2 : Nat) ^ 64 = 18446744073709551616 := rfl
    omega
  rw [e]
  have : a &&& 2 ^ M * (2 ^ (64 - M) - 1) = 0 := by
    apply Nat.eq_of_testBit_eq
    intro i
    rw [Nat.testBit_and, Nat.testBit_two_pow_mul, Nat.zero_testBit]
    by_cases hi : M ≤ i
    · rw [Nat.testBit_lt_two_pow (Nat.lt_of_lt_of_le h (Nat.pow_le_pow_right (by decide) hi))]
      rfl
    · simp [hi]
  rw [this]
  rfl
/-- The domains that stand in an aisle of one of the first i. -/
def upP (i : Nat) : Nat → Bool
  | k => (List.range i).any fun j => decide ((spl k).x = (spl j).x)
theorem upP_step (i k : Nat) : upP (i + 1) k = (upP i k || decide ((spl k).x = (spl i).x)) := by
  show (List.range (i + 1)).any _ = _
  rw [List.range_succ, List.any_append]
  show (upP i k || _) = _
  simp
theorem upP_all {M k : Nat} (h : k < M) : upP M k = true := by
  show (List.range M).any _ = true
  rw [List.any_eq_true]
  exact ⟨k, by simpa using h, by simp⟩
theorem near_turn (i d : Nat) (r : Int) : nearP i r d = nearP d r i := by
  show decide _ = decide _
  congr 1
  have : (((spl d).x - (spl i).x).natAbs + ((spl d).y - (spl i).y).natAbs : Nat) = ((spl i).x - (spl d).x).natAbs + ((spl i).y - (spl d).y).natAbs := by omega
  rw [this]

/-! ### STEP 1: THE WALK: the Go text returns true. 'Grown w w'': the world has at most new blocks (Derived/RowKit3.lean). Part the cases AHEAD of 'go_enter' where a test parts the walk; take each callee by a contract of your own. -/
set_option maxHeartbeats 4000000 in
set_option maxRecDepth 20000 in
theorem walk (a0 : Int) (a1 : Int) (a2 : Int) (w0 : (Lit.int .u8 a0).wf = true) (w1 : (Lit.int .u8 a1).wf = true) (w2 : (Lit.int .u8 a2).wf = true) (w : World) :
    Calls Try.prog 3 #[.int .u8 a0, .int .u8 a1, .int .u8 a2] w fun e w' => e = .returned (.bool true) ∧ Below w.heap.size w w' := by
  obtain ⟨n, rfl, hn⟩ := u8_of_wf15 w0
  obtain ⟨d, rfl, hd⟩ := u8_of_wf15 w1
  obtain ⟨r, rfl, hr⟩ := u8_of_wf15 w2
  obtain ⟨M0, hM0⟩ : ∃ M, n % 64 = M := ⟨_, rfl⟩
  have hm0 : (n : Int) % 64 = (M0 : Int) := by omega
  obtain ⟨M, hM⟩ : ∃ M, M0 + 1 = M := ⟨_, rfl⟩
  have hm : (M0 : Int) + 1 = (M : Int) := by omega
  have hM1 : 1 ≤ M := by omega
  have hM6 : M ≤ 64 := by omega
  obtain ⟨D, hD⟩ : ∃ D, d % M = D := ⟨_, rfl⟩
  have hdm : (d : Int) % (M : Int) = (D : Int) := by rw [← hD, Int.natCast_emod]
  have hDM : D < M := by rw [← hD]; exact Nat.mod_lt _ (by omega)
  have nM : ¬ ((M : Int) = 0) := by omega
  obtain ⟨F, HF⟩ : ∃ F : Nat, Hid (2 ^ M - 1 = F) := ⟨_, rfl⟩
  have HFu : Hid (∀ w, Calls Try.prog 5 #[.int .i64 (M : Int)] w fun e w' => e = .returned (.tuple #[.int .u64 (F : Int), .int .i64 0]) ∧ w = w') := fun w => by rw [← HF.out]; exact rfull_ok M w hM6
  obtain ⟨Fs, HFs⟩ : ∃ Fs : Nat, Hid (gst (nearP D r) M = Fs) := ⟨_, rfl⟩
  have HN2 : Hid (∀ w, Calls Try.prog 9 #[.int .i64 (M : Int), .int .i64 (D : Int), .int .i64 (r : Int)] w fun e w' => e = .returned (.tuple #[.int .u64 (Fs : Int), .int .i64 0]) ∧ Below w.heap.size w w') := fun w => by rw [← HFs.out]; exact pnear_ok w M D r hM6 hDM (by omega)
  clear hM0 hD w0 w1 w2
  go_enter Try.func3, Try.ntmps3
  go_wp2_with (go_at_call 5; refine (HFu.out _).mono ?_; rintro e w1 ⟨rfl, rfl⟩)
  go_loopw [10, 11] (fun vs vi wr => ∃ i s : Nat, i ≤ M ∧ vi = .int .i64 (i : Int) ∧ vs = .int .u64 (s : Int) ∧ Hid (gst (upP i) M = s) ∧ Below w.heap.size w wr) (fun _ vi _ => M - (intOf vi).toNat)
  case atStart => exact ⟨0, 0, by omega, rfl, rfl, gst_none M, Below.refl _ _⟩
  case round =>
    clear HFu
    obtain ⟨i, s, hi, rfl, rfl, HS, hb⟩ := hrel
    have HB : Hid (Below w.heap.size w wr) := hb
    clear hb
    by_cases hlt : i < M
    · have d1 : decide ((i : Int) < (M : Int)) = true := decide_eq_true (by omega)
      obtain ⟨A, HA⟩ : ∃ A : Nat, Hid (gst (fun k => decide ((spl k).x = (spl i).x)) M = A) := ⟨_, rfl⟩
      have hA6 : A < 18446744073709551616 := by rw [← HA.out]; exact gst_64 _ hM6
      have HAi : Hid (∀ w, Calls Try.prog 6 #[.int .i64 (M : Int), .int .i64 (i : Int)] w fun e w' => e = .returned (.tuple #[.int .u64 (A : Int), .int .i64 0]) ∧ Below w.heap.size w w') := fun w => by rw [← HA.out]; exact paisle_ok w M i hM6 hlt
      have bA : bt A i = 1 := by rw [← HA.out, bt_gst, if_pos ⟨hlt, by simp⟩]
      have HHi : Hid (∀ w, Calls Try.prog 7 #[.int .u64 (A : Int), .int .i64 (i : Int)] w fun e w' => e = .returned (.bool true) ∧ w = w') := fun w => by
        have := jrhas_ok A i w hA6 (by omega)
        rwa [decide_eq_true bA] at this
      have eout : bits .andNot .u64 (A : Int) (F : Int) = 0 := by rw [← HF.out]; exact out_none hM6 (by rw [← HA.out]; exact gst_lt _ _)
      obtain ⟨F0, HF0, HLi⟩ : ∃ F0 : Nat, Hid (F0 < M ∧ (spl F0).x = (spl i).x) ∧ Hid (∀ w, Calls Try.prog 8 #[.int .u64 (A : Int)] w fun e w' => ∃ g K c, e = .returned (.slice (some ⟨g, 0, none⟩) K c) ∧ 0 < K ∧ w'.cell? ⟨g, 0, none⟩ = some (.int .i64 (F0 : Int)) ∧ Below w.heap.size w w') := by
        have hK : 0 < cn A 64 := by
          have h1 := cn_top i A
          have h2 := cn_mono (s := A) (show i + 1 ≤ 64 by omega)
          omega
        obtain ⟨hl1, hl2, _⟩ := lf_spec (s := A) (i := 64) (t := 0) hK
        refine ⟨lf A 64 0, ?_, fun w => ?_⟩
        · have := bt_gst (p := fun k => decide ((spl k).x = (spl i).x)) (n := M) (i := lf A 64 0)
          rw [HA.out, hl2] at this
          by_cases hh : lf A 64 0 < M ∧ decide ((spl (lf A 64 0)).x = (spl i).x) = true
          · exact ⟨hh.1, of_decide_eq_true hh.2⟩
          · rw [if_neg hh] at this; omega
        · refine (rlist_ok A w hA6).mono ?_
          rintro e w' ⟨v, rfl, hj, hb⟩
          obtain ⟨sv, dv, rfl, -⟩ := hj.form
          obtain ⟨g, rfl, -, -⟩ := hj.addr hK
          exact ⟨g, _, _, rfl, hK, hj.cell 0 hK, hb⟩
      have HAf : Hid (∀ w, Calls Try.prog 6 #[.int .i64 (M : Int), .int .i64 (F0 : Int)] w fun e w' => e = .returned (.tuple #[.int .u64 (A : Int), .int .i64 0]) ∧ Below w.heap.size w w') := fun w => by
        have := paisle_ok w M F0 hM6 HF0.out.1
        rw [HF0.out.2, HA.out] at this
        exact this
      obtain ⟨S', HS'⟩ : ∃ S' : Nat, Hid (gst (upP (i + 1)) M = S') := ⟨_, rfl⟩
      have hor : bits .or .u64 (s : Int) (A : Int) = (S' : Int) := by
        rw [u64_or_nat s A (by rw [← HS.out]; exact gst_64 _ hM6) hA6, ← HS.out, ← HA.out, gst_or2, ← HS'.out]
        congr 2
        funext k
        exact (upP_step i k).symm
      obtain ⟨C, HC⟩ : ∃ C : Nat, Hid (gst (nearP i r) M = C) := ⟨_, rfl⟩
      have HN1 : Hid (∀ w, Calls Try.prog 9 #[.int .i64 (M : Int), .int .i64 (i : Int), .int .i64 (r : Int)] w fun e w' => e = .returned (.tuple #[.int .u64 (C : Int), .int .i64 0]) ∧ Below w.heap.size w w') := fun w => by rw [← HC.out]; exact pnear_ok w M i r hM6 hlt (by omega)
      obtain ⟨b, HH2, HH3⟩ : ∃ b : Bool, Hid (∀ w, Calls Try.prog 7 #[.int .u64 (C : Int), .int .i64 (D : Int)] w fun e w' => e = .returned (.bool b) ∧ w = w') ∧ Hid (∀ w, Calls Try.prog 7 #[.int .u64 (Fs : Int), .int .i64 (i : Int)] w fun e w' => e = .returned (.bool b) ∧ w = w') := by
        refine ⟨nearP D r i, fun w => ?_, fun w => ?_⟩
        · have := jrhas_ok C D w (by rw [← HC.out]; exact gst_64 _ hM6) (by omega)
          rw [← HC.out, bt_gst, HC.out] at this
          have e : decide ((if D < M ∧ nearP i r D = true then 1 else 0) = 1) = nearP D r i := by
            rw [near_turn i D r]
            cases nearP D (r : Int) i <;> simp [hDM]
          rw [e] at this
          exact this
        · have := jrhas_ok Fs i w (by rw [← HFs.out]; exact gst_64 _ hM6) (by omega)
          rw [← HFs.out, bt_gst, HFs.out] at this
          have e : decide ((if i < M ∧ nearP D r i = true then 1 else 0) = 1) = nearP D r i := by
            cases nearP D (r : Int) i <;> simp [hlt]
          rw [e] at this
          exact this
      have hrr : r < 256 := hr
      clear HA HF0 HS HC bA HF
      cases b <;> (
        go_wp2_with (first
          | (have _m := m1; go_at_call 6; refine (HAf.out _).mono ?_; rintro e w4 ⟨rfl, hb⟩; have HB4 : Hid (Below w.heap.size w w4) := jtwo HB3.out hb; clear hb)
          | (go_at_call 6; refine (HAi.out _).mono ?_; rintro e w2 ⟨rfl, hb⟩; have HB2 : Hid (Below w.heap.size w w2) := jtwo HB.out hb; have m1 : True := trivial; clear hb)
          | (have _m := m3; go_at_call 7; refine (HH3.out _).mono ?_; rintro e w' ⟨rfl, rfl⟩)
          | (have _m := HB6; go_at_call 7; refine (HH2.out _).mono ?_; rintro e w' ⟨rfl, rfl⟩; have m3 : True := trivial)
          | (go_at_call 7; refine (HHi.out _).mono ?_; rintro e w' ⟨rfl, rfl⟩)
          | (go_at_call 8; refine (HLi.out _).mono ?_; rintro e w3 ⟨g, K, c, rfl, hK, hc, hb⟩; have hK' : (0 : Int) < (K : Int) := (by omega); have HB3 : Hid (Below w.heap.size w w3) := jtwo HB2.out hb; clear hb)
          | (have _m := HB5; go_at_call 9; refine (HN2.out _).mono ?_; rintro e w6 ⟨rfl, hb⟩; have HB6 : Hid (Below w.heap.size w w6) := jtwo HB5.out hb; clear hb)
          | (go_at_call 9; refine (HN1.out _).mono ?_; rintro e w5 ⟨rfl, hb⟩; have HB5 : Hid (Below w.heap.size w w5) := jtwo HB4.out hb; clear hb))
        exact ⟨⟨i + 1, S', by omega, by go_num, rfl, HS', HB6.out⟩, by simp [intOf]; omega⟩)
    · obtain rfl : i = M := by omega
      have d1 : decide ((i : Int) < (i : Int)) = false := decide_eq_false (by omega)
      have es : s = F := by rw [← HS.out, ← HF.out]; exact gst_full (fun k hk => upP_all hk)
      subst es
      clear HS HF HN2 HFs
      go_wp2_with (go_at_call 10; refine (anch15 _).mono ?_; rintro e w6 ⟨rfl, hb⟩; have HB6 : Hid (Below w.heap.size w w6) := jtwo HB.out hb; clear hb)
      go_ret
      exact ⟨rfl, HB6.out⟩

/-! ### THE ROW's STEP: WRITTEN OUT: LEAVE IT -/
set_option maxRecDepth 100000 in
theorem lifted (os : Os) (started : os.Started) (H : Type) (enc : TypeId × Value → H) :
    ReturnsInHanded {} Try.checked os 3 .any (Rows.floorPartedSpec.pre6 enc Try.prog Try.f3 Rows.floorPartedRow.domain false) (Rows.floorPartedSpec.post enc Try.prog Try.f3 false true false false) := by
  refine returnsInHanded_of_change (C := Try.checked) own started (by kernel_rfl) Try.func3
    (ChangeSpec.witness6 (enc := enc) (C := Try.checked) false ⟨#[], #[.int .u8 0, .int .u8 0, .int .u8 0], []⟩ 8 (by kernel_rfl) (by kernel_rfl) (by kernel_rfl) (by kernel_rfl)) ?_
  intro W base args ds gs before hval0 hW hcnd _
  have hval : ∀ (j : Nat) t v, Try.f3.params[j]? = some t → args[j]? = some v → Value.okWide Try.prog W .any base t v := hval0
  have hW' := hW
  obtain ⟨p, q, hA0, hV, rfl, hfz, hnd⟩ := hW
  have hA : DataW.TrodAll enc Try.prog W 0 (fun _ => true) true Try.f3.params.toList args.toList ds p := hA0
  rw [Try.params3] at hA hval
  obtain ⟨v0, vs0, d0, ds0, p0, q0, hargs, rfl, rfl, h0, r0⟩ := trodAll_cons hA
  obtain ⟨v1, vs1, d1, ds1, p1, q1, rfl, rfl, rfl, h1, r1⟩ := trodAll_cons r0
  obtain ⟨v2, vs2, d2, ds2, p2, q2, rfl, rfl, rfl, h2, r2⟩ := trodAll_cons r1
  obtain ⟨rfl, rfl, rfl⟩ := trodAll_nil r2
  obtain rfl : args = #[v0, v1, v2] := by cases args; simp_all
  obtain ⟨rfl, rfl⟩ := trodVars_none hV
  obtain ⟨a0, rfl, rfl, rfl, w0⟩ := open_int Try.underlying5 (hval 0 5 v0 rfl rfl) h0
  obtain ⟨a1, rfl, rfl, rfl, w1⟩ := open_int Try.underlying5 (hval 1 5 v1 rfl rfl) h1
  obtain ⟨a2, rfl, rfl, rfl, w2⟩ := open_int Try.underlying5 (hval 2 5 v2 rfl rfl) h2
  clear hA0 hval0
  simp only [List.append_nil] at hW'
  refine (walk a0 a1 a2 w0 w1 w2 W).mono fun e W' ⟨he, hg⟩ => ?_
  subst he
  exact ⟨_, rfl, _, _, _, [], _, [], hW', trodAll_mk1 (shut_bool Try.underlying4 _), (trodAll_cons_mk (shut_int Try.underlying5 w0) (trodAll_cons_mk (shut_int Try.underlying5 w1) (trodAll_cons_mk (shut_int Try.underlying5 w2) trodAll_mk0))), rfl, hg.frame _, fun h => by cases h⟩

theorem over : Rows.floorPartedRow.holds Try.pinned (OpenSpec.ofChange Rows.floorPartedSpec) :=
  OpenClaim.holds_of_wide 3 Try.f3 rfl rfl rfl rfl rfl rfl rfl ⟨rfl, rfl, rfl, rfl, rfl⟩ rfl rfl rfl rfl rfl (by kernel_rfl) Try.func3 (by kernel_rfl)
    (of_decide_eq_true (by kernel_rfl)) (by unfold Func.isWrapper; first | (rw [if_pos (by decide +kernel)]; kernel_rfl) | (rw [if_neg (by decide +kernel)]; exact ⟨rfl, rfl⟩))
    (fun os started H enc _ => lifted os started H enc)

/-- ████ THE STATEMENT ████ -/
theorem proved : Rows.FloorPartedSaid :=
  over
#print axioms proved
end Go.Proofs.Ytfajmoiffjbcbab.floorParted
