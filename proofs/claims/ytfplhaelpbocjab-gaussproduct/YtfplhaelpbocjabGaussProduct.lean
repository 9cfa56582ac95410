/-
  Proved: for every two matrices the rank of the product is not above that of either factor, and not below the sum of theirs less the columns of the first (P4.5); no condition.
-/
import Derived.Test.YtfplhaelpbocjabGp
import Derived.WalkKit
import Derived.SizedLaws
import Derived.ProofKit
import Derived.OpenShut
import Derived.ShutString
import Derived.ChangeOld
import Derived.Below
import Derived.Lib.SmallJoins
import Derived.Deep.Matrix
namespace Go.Proofs.Ytfplhaelpbocjab.gaussProduct
open Go.ChangeShapes Go.WideShapes Go.ChangeAt Go.RowKit Go.Joins
set_option linter.unusedVariables false
theorem own : ownKnob Try.prog.godebug = none := by kernel_rfl
theorem laidOut : laidOutB Try.prog = true := by kernel_rfl
/-- A slice of integers that came in. -/
def IsRow (k : IntKind) (w : World) (a : Option Addr) (len cap : Nat) (zs : List Int) : Prop :=
  (a = none ∧ len = 0 ∧ cap = 0 ∧ zs = []) ∨
  ∃ x, a = some x ∧ len ≤ cap ∧ cap ≤ 140737488351232 ∧ zs.length = cap ∧ (∀ i, i < zs.length → w.cell? (x.add i) = some (.int k (zs.getD i 0))) ∧ ∀ n ∈ zs, (Lit.int k n).wf = true
/-- A slice of slices of bytes that came in. -/
def IsRows (w : World) (a : Option Addr) (len cap : Nat) : Prop :=
  (a = none ∧ len = 0 ∧ cap = 0) ∨
  ∃ x, a = some x ∧ len ≤ cap ∧ cap ≤ 140737488351232 ∧ ∀ r, r < cap → ∃ b l c zs, w.cell? (x.add r) = some (.slice b l c) ∧ IsRow .u8 w b l c zs
theorem sized_in {H : Type} {P : Program} {ts : List TypeId} {ds : List (DataW H)} (h : (DataW.weightsEach P ts ds).all (· ≤ reachBytes) = true) {j : Nat} {t : TypeId} {d : DataW H} (ht : ts[j]? = some t) (hd : ds[j]? = some d) : (d.weights P t).all (· ≤ reachBytes) = true :=
  List.all_eq_true.2 fun n hn => List.all_eq_true.1 h n (DataW.weights_mem_each ht hd n hn)
theorem sized_all {H : Type} {P : Program} {e : TypeId} : ∀ {ds : List (DataW H)}, (DataW.weightsAll P e ds).all (· ≤ reachBytes) = true → ∀ d ∈ ds, (d.weights P e).all (· ≤ reachBytes) = true
  | [], _, d, hd => by simp at hd
  | d0 :: r, h, d, hd => by
    simp only [DataW.weightsAll, List.all_append, Bool.and_eq_true] at h
    rcases List.mem_cons.1 hd with rfl | hd
    · exact h.1
    · exact sized_all h.2 d hd
theorem cellsM : Try.prog.cellsOf 24 = 3 := by kernel_rfl

set_option maxRecDepth 20000 in
set_option maxHeartbeats 8000000 in
theorem walk (r0 c0 : Int) (a0 : Option Addr) (len0 cap0 : Nat) (z0 : List Int) (r1 c1 : Int) (a1 : Option Addr) (len1 cap1 : Nat) (z1 : List Int) (w : World) (u0 : (Lit.int .i64 r0).wf = true) (v0 : (Lit.int .i64 c0).wf = true) (w0 : IsRow .u8 w a0 len0 cap0 z0) (u1 : (Lit.int .i64 r1).wf = true) (v1 : (Lit.int .i64 c1).wf = true) (w1 : IsRow .u8 w a1 len1 cap1 z1) :
    Calls Try.prog 6 #[.agg #[.int .i64 r0, .int .i64 c0, .slice a0 len0 cap0], .agg #[.int .i64 r1, .int .i64 c1, .slice a1 len1 cap1]] w fun e w' => e = .returned (.bool true) ∧ Below w.heap.size w w' := by
  obtain ⟨F, hM, hn⟩ := mt_of_row w a0 len0 cap0 z0 w0
  have HM : Hid (Mt w a0 len0 cap0 F) := hM
  obtain ⟨G, hM1, hn1⟩ := mt_of_row w a1 len1 cap1 z1 w1
  have HM1 : Hid (Mt w a1 len1 cap1 G) := hM1
  clear w0 u0 v0 hn w1 u1 v1 hn1
  obtain ⟨wb, HW⟩ : ∃ wb, Hid (wb = (w.alloc (.cells #[.int .i64 r0, .int .i64 c0, .slice a0 len0 cap0] 24)).alloc (.cells #[.int .i64 r1, .int .i64 c1, .slice a1 len1 cap1] 24)) := ⟨_, rfl⟩
  have HVa : Hid (Vr wb w.heap.size (.int .i64 r0) (.int .i64 c0) (.slice a0 len0 cap0)) := by show Vr _ _ _ _ _; rw [HW.out]; exact (Vr.new w _ _ _).later (alloc_low _ _)
  have HVb : Hid (Vr wb (w.heap.size + 1) (.int .i64 r1) (.int .i64 c1) (.slice a1 len1 cap1)) := by show Vr _ _ _ _ _; rw [HW.out]; have := Vr.new (w.alloc (.cells #[.int .i64 r0, .int .i64 c0, .slice a0 len0 cap0] 24)) (.int .i64 r1) (.int .i64 c1) (.slice a1 len1 cap1); simpa using this
  have HB_0 : Hid (Below w.heap.size w wb) := by rw [HW.out]; exact two_below (alloc_low _ _) (alloc_low _ _)
  have HF_a_0 : Hid (Mt wb a0 len0 cap0 F) := HM.out.later HB_0.out
  have HF_b_0 : Hid (Mt wb a1 len1 cap1 G) := HM1.out.later HB_0.out
  by_cases h : FitP r0 c0 len0 r1 c1 len1
  · obtain ⟨h1, h2, h3⟩ := h
    obtain ⟨ra, ca, rfl, rfl, RA⟩ := right_rt h1
    obtain ⟨rb, cb, rfl, rfl, RB⟩ := right_rt h2
    obtain rfl : ca = rb := by omega
    obtain ⟨N, HN⟩ : ∃ x, Hid (ra * cb = x) := ⟨_, rfl⟩
    have HRA : Hid (Rt ra ca len0) := RA
    have HRB : Hid (Rt ca cb len1) := RB
    have HRC : Hid (Rt ra cb N) := ⟨RA.r64, RB.c64, HN.out⟩
    have HFl : Hid (∀ i, i < len0 → F i < 256) := hM.sl.1
    have HGl : Hid (∀ i, i < len1 → G i < 256) := hM1.sl.1
    have hra := RA.r64
    have hca := RA.c64
    have hcb := RB.c64
    clear h1 h2 h3 RA RB hM hM1
    have HV_a_0 : Hid (Vr wb w.heap.size (.int .i64 (ra : Int)) (.int .i64 (ca : Int)) (.slice a0 len0 cap0)) := HVa.out
    have HV_b_0 : Hid (Vr wb (w.heap.size + 1) (.int .i64 (ca : Int)) (.int .i64 (cb : Int)) (.slice a1 len1 cap1)) := HVb.out
    have l_a_0_0 := HV_a_0.out.c0
    have l_a_1_0 := HV_a_0.out.c1
    have l_a_2_0 := HV_a_0.out.c2
    have l_b_0_0 := HV_b_0.out.c0
    have l_b_1_0 := HV_b_0.out.c1
    have l_b_2_0 := HV_b_0.out.c2
    go_enter Try.func6, Try.ntmps6
    go_wp2_with (first
      | (go_at_call 10; have _x := HB_4; refine (anch4_any _).mono ?_; rintro e w5 ⟨rfl, hb⟩; have HB_5 : Hid (Below w.heap.size w w5) := two_below HB_4.out hb; have HV_a_5 : Hid (Vr w5 w.heap.size (.int .i64 (ra : Int)) (.int .i64 (ca : Int)) (.slice a0 len0 cap0)) := HV_a_4.out.later hb; have HV_b_5 : Hid (Vr w5 (w.heap.size + 1) (.int .i64 (ca : Int)) (.int .i64 (cb : Int)) (.slice a1 len1 cap1)) := HV_b_4.out.later hb; have HV_p_5 : Hid (Vr w5 w1.heap.size (.int .i64 (ra : Int)) (.int .i64 (cb : Int)) (.slice (some ⟨g, 0, none⟩) N N)) := HV_p_4.out.later hb; have HF_a_5 : Hid (Mt w5 a0 len0 cap0 F) := HF_a_4.out.later hb; have HF_b_5 : Hid (Mt w5 a1 len1 cap1 G) := HF_b_4.out.later hb; have HF_p_5 : Hid (Mt w5 (some ⟨g, 0, none⟩) N N (prk F G ca cb ca)) := HF_p_4.out.later hb; have l_a_0_5 := HV_a_5.out.c0; have l_a_1_5 := HV_a_5.out.c1; have l_a_2_5 := HV_a_5.out.c2; have l_b_0_5 := HV_b_5.out.c0; have l_b_1_5 := HV_b_5.out.c1; have l_b_2_5 := HV_b_5.out.c2; have l_p_0_5 := HV_p_5.out.c0; have l_p_1_5 := HV_p_5.out.c1; have l_p_2_5 := HV_p_5.out.c2; clear hb HV_a_4 HV_b_4 HV_p_4 HF_a_4 HF_b_4 HF_p_4)
      | (go_at_call 21; have _x := HB_3; refine (grank_ok _ ra cb N N (some ⟨g, 0, none⟩) (prk F G ca cb ca) HF_p_3.out HRC.out).mono ?_; rintro e w4 ⟨t3, rfl, hk, hb⟩; have HB_4 : Hid (Below w.heap.size w w4) := two_below HB_3.out hb; have HV_a_4 : Hid (Vr w4 w.heap.size (.int .i64 (ra : Int)) (.int .i64 (ca : Int)) (.slice a0 len0 cap0)) := HV_a_3.out.later hb; have HV_b_4 : Hid (Vr w4 (w.heap.size + 1) (.int .i64 (ca : Int)) (.int .i64 (cb : Int)) (.slice a1 len1 cap1)) := HV_b_3.out.later hb; have HV_p_4 : Hid (Vr w4 w1.heap.size (.int .i64 (ra : Int)) (.int .i64 (cb : Int)) (.slice (some ⟨g, 0, none⟩) N N)) := HV_p_3.out.later hb; have HF_a_4 : Hid (Mt w4 a0 len0 cap0 F) := HF_a_3.out.later hb; have HF_b_4 : Hid (Mt w4 a1 len1 cap1 G) := HF_b_3.out.later hb; have HF_p_4 : Hid (Mt w4 (some ⟨g, 0, none⟩) N N (prk F G ca cb ca)) := HF_p_3.out.later hb; obtain ⟨q1, q2, q3⟩ := rk_prods HFl.out HGl.out HRA.out HRB.out HK1.out HK2.out hk HR9.out.1 HR9.out.2.1 HR9.out.2.2.1 HR9.out.2.2.2; have e1 : IntKind.i64.wrap ((t1 : Int) + (t2 : Int)) = (t1 : Int) + (t2 : Int) := (by rw [IntKind.wrap_i64]; omega); have e2 : IntKind.i64.wrap ((t1 : Int) + (t2 : Int) - (ca : Int)) = (t1 : Int) + (t2 : Int) - (ca : Int) := (by rw [IntKind.wrap_i64]; omega); have e3 : decide ((t1 : Int) + (t2 : Int) - (ca : Int) ≤ (t3 : Int)) = true := (by simp; omega); have e4 : decide (t3 ≤ t1) = true := (by simpa using q1); have e5 : decide (t3 ≤ t2) = true := (by simpa using q2); clear hk; have l_a_0_4 := HV_a_4.out.c0; have l_a_1_4 := HV_a_4.out.c1; have l_a_2_4 := HV_a_4.out.c2; have l_b_0_4 := HV_b_4.out.c0; have l_b_1_4 := HV_b_4.out.c1; have l_b_2_4 := HV_b_4.out.c2; have l_p_0_4 := HV_p_4.out.c0; have l_p_1_4 := HV_p_4.out.c1; have l_p_2_4 := HV_p_4.out.c2; clear hb HV_a_3 HV_b_3 HV_p_3 HF_a_3 HF_b_3 HF_p_3)
      | (go_at_call 21; have _x := HB_2; refine (grank_ok _ ca cb len1 cap1 a1 G HF_b_2.out HRB.out).mono ?_; rintro e w3 ⟨t2, rfl, hk, hb⟩; have HB_3 : Hid (Below w.heap.size w w3) := two_below HB_2.out hb; have HV_a_3 : Hid (Vr w3 w.heap.size (.int .i64 (ra : Int)) (.int .i64 (ca : Int)) (.slice a0 len0 cap0)) := HV_a_2.out.later hb; have HV_b_3 : Hid (Vr w3 (w.heap.size + 1) (.int .i64 (ca : Int)) (.int .i64 (cb : Int)) (.slice a1 len1 cap1)) := HV_b_2.out.later hb; have HV_p_3 : Hid (Vr w3 w1.heap.size (.int .i64 (ra : Int)) (.int .i64 (cb : Int)) (.slice (some ⟨g, 0, none⟩) N N)) := HV_p_2.out.later hb; have HF_a_3 : Hid (Mt w3 a0 len0 cap0 F) := HF_a_2.out.later hb; have HF_b_3 : Hid (Mt w3 a1 len1 cap1 G) := HF_b_2.out.later hb; have HF_p_3 : Hid (Mt w3 (some ⟨g, 0, none⟩) N N (prk F G ca cb ca)) := HF_p_2.out.later hb; have HK2 : Hid (Rk (m2 G ca cb) ca t2) := hk; have ht2 := hk.rows (m2_el HGl.out HRB.out); clear hk; have l_a_0_3 := HV_a_3.out.c0; have l_a_1_3 := HV_a_3.out.c1; have l_a_2_3 := HV_a_3.out.c2; have l_b_0_3 := HV_b_3.out.c0; have l_b_1_3 := HV_b_3.out.c1; have l_b_2_3 := HV_b_3.out.c2; have l_p_0_3 := HV_p_3.out.c0; have l_p_1_3 := HV_p_3.out.c1; have l_p_2_3 := HV_p_3.out.c2; clear hb HV_a_2 HV_b_2 HV_p_2 HF_a_2 HF_b_2 HF_p_2)
      | (go_at_call 21; have _x := HB_1; refine (grank_x _ ra ca len0 cap0 a0 F HF_a_1.out HRA.out).mono ?_; rintro e w2 ⟨t1, rfl, hk, ⟨R9, p9, hE9, hR9, hS9, hp9⟩, hb⟩; have HB_2 : Hid (Below w.heap.size w w2) := two_below HB_1.out hb; have HV_a_2 : Hid (Vr w2 w.heap.size (.int .i64 (ra : Int)) (.int .i64 (ca : Int)) (.slice a0 len0 cap0)) := HV_a_1.out.later hb; have HV_b_2 : Hid (Vr w2 (w.heap.size + 1) (.int .i64 (ca : Int)) (.int .i64 (cb : Int)) (.slice a1 len1 cap1)) := HV_b_1.out.later hb; have HV_p_2 : Hid (Vr w2 w1.heap.size (.int .i64 (ra : Int)) (.int .i64 (cb : Int)) (.slice (some ⟨g, 0, none⟩) N N)) := HV_p_1.out.later hb; have HF_a_2 : Hid (Mt w2 a0 len0 cap0 F) := HF_a_1.out.later hb; have HF_b_2 : Hid (Mt w2 a1 len1 cap1 G) := HF_b_1.out.later hb; have HF_p_2 : Hid (Mt w2 (some ⟨g, 0, none⟩) N N (prk F G ca cb ca)) := HF_p_1.out.later hb; have HK1 : Hid (Rk (m2 F ra ca) ra t1) := hk; have HR9 : Hid (El2 R9 ∧ Rdf R9 ra t1 p9 ∧ SpEq R9 ra (m2 F ra ca) ra ∧ ∀ i, i < t1 → p9 i < ca) := ⟨hE9, hR9, hS9, hp9⟩; have ht1 := hk.rows (m2_el HFl.out HRA.out); clear hk hE9 hR9 hS9 hp9; have l_a_0_2 := HV_a_2.out.c0; have l_a_1_2 := HV_a_2.out.c1; have l_a_2_2 := HV_a_2.out.c2; have l_b_0_2 := HV_b_2.out.c0; have l_b_1_2 := HV_b_2.out.c1; have l_b_2_2 := HV_b_2.out.c2; have l_p_0_2 := HV_p_2.out.c0; have l_p_1_2 := HV_p_2.out.c1; have l_p_2_2 := HV_p_2.out.c2; clear hb HV_a_1 HV_b_1 HV_p_1 HF_a_1 HF_b_1 HF_p_1)
      | (go_at_call 12; rw [← HW.out]; refine (rmmul_ok _ ra ca cb len0 len1 N cap0 cap1 a0 a1 F G HF_a_0.out.sl HF_b_0.out.sl HRA.out HRB.out HRC.out).mono ?_; rintro e w1 ⟨g, rfl, hr, _, hb⟩; have HB_1 : Hid (Below w.heap.size w (w1.alloc (.cells #[.int .i64 (ra : Int), .int .i64 (cb : Int), .slice (some ⟨g, 0, none⟩) N N] 24))) := two_below (two_below HB_0.out hb) (alloc_low _ _); have HV_a_1 : Hid (Vr (w1.alloc (.cells #[.int .i64 (ra : Int), .int .i64 (cb : Int), .slice (some ⟨g, 0, none⟩) N N] 24)) w.heap.size (.int .i64 (ra : Int)) (.int .i64 (ca : Int)) (.slice a0 len0 cap0)) := (HV_a_0.out.later hb).later (alloc_low _ _); have HV_b_1 : Hid (Vr (w1.alloc (.cells #[.int .i64 (ra : Int), .int .i64 (cb : Int), .slice (some ⟨g, 0, none⟩) N N] 24)) (w.heap.size + 1) (.int .i64 (ca : Int)) (.int .i64 (cb : Int)) (.slice a1 len1 cap1)) := (HV_b_0.out.later hb).later (alloc_low _ _); have HF_a_1 : Hid (Mt (w1.alloc (.cells #[.int .i64 (ra : Int), .int .i64 (cb : Int), .slice (some ⟨g, 0, none⟩) N N] 24)) a0 len0 cap0 F) := (HF_a_0.out.later hb).later (alloc_low _ _); have HF_b_1 : Hid (Mt (w1.alloc (.cells #[.int .i64 (ra : Int), .int .i64 (cb : Int), .slice (some ⟨g, 0, none⟩) N N] 24)) a1 len1 cap1 G) := (HF_b_0.out.later hb).later (alloc_low _ _); have HV_p_1 : Hid (Vr (w1.alloc (.cells #[.int .i64 (ra : Int), .int .i64 (cb : Int), .slice (some ⟨g, 0, none⟩) N N] 24)) w1.heap.size (.int .i64 (ra : Int)) (.int .i64 (cb : Int)) (.slice (some ⟨g, 0, none⟩) N N)) := Vr.new w1 _ _ _; have HF_p_1 : Hid (Mt (w1.alloc (.cells #[.int .i64 (ra : Int), .int .i64 (cb : Int), .slice (some ⟨g, 0, none⟩) N N] 24)) (some ⟨g, 0, none⟩) N N (prk F G ca cb ca)) := (hr.mt (prk_all G HFl.out HRA.out HRC.out)).later (alloc_low _ _); clear hr; have l_a_0_1 := HV_a_1.out.c0; have l_a_1_1 := HV_a_1.out.c1; have l_a_2_1 := HV_a_1.out.c2; have l_b_0_1 := HV_b_1.out.c0; have l_b_1_1 := HV_b_1.out.c1; have l_b_2_1 := HV_b_1.out.c2; have l_p_0_1 := HV_p_1.out.c0; have l_p_1_1 := HV_p_1.out.c1; have l_p_2_1 := HV_p_1.out.c2; clear hb HV_a_0 HV_b_0 HF_a_0 HF_b_0))
    go_ret
    exact ⟨rfl, HB_5.out⟩
  · have H1 : Hid (¬ FitP r0 c0 len0 r1 c1 len1) := h
    clear h hM hM1
    have HV_a_0 : Hid (Vr wb w.heap.size (.int .i64 r0) (.int .i64 c0) (.slice a0 len0 cap0)) := HVa.out
    have HV_b_0 : Hid (Vr wb (w.heap.size + 1) (.int .i64 r1) (.int .i64 c1) (.slice a1 len1 cap1)) := HVb.out
    have l_a_0_0 := HV_a_0.out.c0
    have l_a_1_0 := HV_a_0.out.c1
    have l_a_2_0 := HV_a_0.out.c2
    have l_b_0_0 := HV_b_0.out.c0
    have l_b_1_0 := HV_b_0.out.c1
    have l_b_2_0 := HV_b_0.out.c2
    go_enter Try.func6, Try.ntmps6
    go_wp2_with (first
      | (go_at_call 10; have _x := HB_1; refine (anch4_any _).mono ?_; rintro e w2 ⟨rfl, hb⟩; have HB_2 : Hid (Below w.heap.size w w2) := two_below HB_1.out hb; have HV_a_2 : Hid (Vr w2 w.heap.size (.int .i64 r0) (.int .i64 c0) (.slice a0 len0 cap0)) := HV_a_1.out.later hb; have HV_b_2 : Hid (Vr w2 (w.heap.size + 1) (.int .i64 r1) (.int .i64 c1) (.slice a1 len1 cap1)) := HV_b_1.out.later hb; have HV_p_2 : Hid (Vr w2 w1.heap.size (.int .i64 0) (.int .i64 0) (.slice none 0 0)) := HV_p_1.out.later hb; have HF_a_2 : Hid (Mt w2 a0 len0 cap0 F) := HF_a_1.out.later hb; have HF_b_2 : Hid (Mt w2 a1 len1 cap1 G) := HF_b_1.out.later hb; clear hb HV_a_1 HV_b_1 HV_p_1 HF_a_1 HF_b_1)
      | (go_at_call 12; rw [← HW.out]; refine (rmmul_bad _ _ _ _ _ _ _ _ _ _ _ H1.out).mono ?_; rintro e w1 ⟨rfl, hb⟩; have HB_1 : Hid (Below w.heap.size w (w1.alloc (.cells #[.int .i64 0, .int .i64 0, .slice none 0 0] 24))) := two_below (two_below HB_0.out hb) (alloc_low _ _); have HV_a_1 : Hid (Vr (w1.alloc (.cells #[.int .i64 0, .int .i64 0, .slice none 0 0] 24)) w.heap.size (.int .i64 r0) (.int .i64 c0) (.slice a0 len0 cap0)) := (HV_a_0.out.later hb).later (alloc_low _ _); have HV_b_1 : Hid (Vr (w1.alloc (.cells #[.int .i64 0, .int .i64 0, .slice none 0 0] 24)) (w.heap.size + 1) (.int .i64 r1) (.int .i64 c1) (.slice a1 len1 cap1)) := (HV_b_0.out.later hb).later (alloc_low _ _); have HF_a_1 : Hid (Mt (w1.alloc (.cells #[.int .i64 0, .int .i64 0, .slice none 0 0] 24)) a0 len0 cap0 F) := (HF_a_0.out.later hb).later (alloc_low _ _); have HF_b_1 : Hid (Mt (w1.alloc (.cells #[.int .i64 0, .int .i64 0, .slice none 0 0] 24)) a1 len1 cap1 G) := (HF_b_0.out.later hb).later (alloc_low _ _); have HV_p_1 : Hid (Vr (w1.alloc (.cells #[.int .i64 0, .int .i64 0, .slice none 0 0] 24)) w1.heap.size (.int .i64 0) (.int .i64 0) (.slice none 0 0)) := Vr.new w1 _ _ _; have l_a_0_1 := HV_a_1.out.c0; have l_a_1_1 := HV_a_1.out.c1; have l_a_2_1 := HV_a_1.out.c2; have l_b_0_1 := HV_b_1.out.c0; have l_b_1_1 := HV_b_1.out.c1; have l_b_2_1 := HV_b_1.out.c2; have l_p_0_1 := HV_p_1.out.c0; have l_p_1_1 := HV_p_1.out.c1; have l_p_2_1 := HV_p_1.out.c2; clear hb HV_a_0 HV_b_0 HF_a_0 HF_b_0))
    go_ret
    exact ⟨rfl, HB_2.out⟩
set_option maxRecDepth 100000 in
set_option maxHeartbeats 2000000 in
theorem lifted (os : Os) (started : os.Started) (H : Type) (enc : TypeId × Value → H) :
    ReturnsInHanded {} Try.checked os 6 .any (Rows.gaussProductSpec.pre6 enc Try.prog Try.f6 Rows.gaussProductRow.domain false) (Rows.gaussProductSpec.post enc Try.prog Try.f6 false true false false) := by
  refine returnsInHanded_of_change_sized (C := Try.checked) own started (by kernel_rfl) Try.func6
    (ChangeSpec.witness6 (enc := enc) (C := Try.checked) false ⟨#[], #[.agg #[.int .i64 0, .int .i64 0, .slice none 0 0], .agg #[.int .i64 0, .int .i64 0, .slice none 0 0]], []⟩ 8 (by kernel_rfl) (by kernel_rfl) (by kernel_rfl) (by kernel_rfl)) ?_
  intro W base args ds gs before hval0 hW hcnd hsz0 _
  have hsz : (DataW.weightsEach Try.prog (Try.f6.params.toList ++ Rows.gaussProductSpec.plain.varTypes Try.prog) (ds ++ gs)).all (· ≤ reachBytes) = true := hsz0
  clear hsz0
  have hval : ∀ (j : Nat) t v, Try.f6.params[j]? = some t → args[j]? = some v → Value.okWide Try.prog W .any base t v := hval0
  have hW' := hW
  obtain ⟨p, q, hA0, hV, rfl, hfz, hnd⟩ := hW
  have hA : DataW.TrodAll enc Try.prog W 0 (fun _ => true) true Try.f6.params.toList args.toList ds p := hA0
  rw [Try.params6] at hA hval hsz
  obtain ⟨va0, vs0, d0, ds0, p0, q0, hargs, rfl, rfl, h0, tr0⟩ := trodAll_cons hA
  obtain ⟨va1, vs1, d1, ds1, p1, q1, rfl, rfl, rfl, h1, tr1⟩ := trodAll_cons tr0
  obtain ⟨rfl, rfl, rfl⟩ := trodAll_nil tr1
  obtain rfl : args = #[va0, va1] := by cases args; simp_all
  obtain ⟨rfl, rfl⟩ := trodVars_none hV
  have k0 := h0
  have lt0 : ∀ x ∈ p0, x.block < W.heap.size := by obtain ⟨m, hm⟩ := k0; exact DataW.trod_lt m _ _ _ hm
  obtain ⟨f0, g0, s0, y0, x0, e0, m0, rfl, rfl, rfl, hf0, hg0, hs0⟩ := open_agg3 Try.underlying24 (by kernel_rfl) cellsM (hval 0 24 va0 rfl rfl) h0
  obtain ⟨r0, er0, rfl, u0⟩ := DataW.trod_int Try.underlying3 hf0
  obtain ⟨c0, ec0, rfl, v0⟩ := DataW.trod_int Try.underlying3 hg0
  simp only [List.cons.injEq, and_true] at er0 ec0
  subst er0 ec0
  obtain ⟨a0, len0, cap0, rfl⟩ : ∃ a l c, s0 = .slice a l c := by
    rcases open_ints Try.underlying22 Try.underlying5 (by kernel_rfl) hs0 with ⟨hcs, _⟩ | ⟨x, l, c, zs, hcs, _⟩
    · simp only [List.cons.injEq, and_true] at hcs; exact ⟨_, _, _, hcs⟩
    · simp only [List.cons.injEq, and_true] at hcs; exact ⟨_, _, _, hcs⟩
  obtain ⟨z0, w0⟩ : ∃ zs, IsRow .u8 W a0 len0 cap0 zs := by
    obtain ⟨fuel, hf⟩ := (⟨m0, hs0⟩ : ∃ fuel, DataW.trod enc Try.prog W 0 (fun _ => true) true fuel 22 [.slice a0 len0 cap0] = some e0)
    rcases open_ints Try.underlying22 Try.underlying5 (by kernel_rfl) hf with ⟨hcs, _⟩ | ⟨x, l, c, zs, hcs, _, hl, hm, hz, hxx, hcell, hwz⟩
    · simp at hcs
      obtain ⟨rfl, rfl, rfl⟩ := hcs
      exact ⟨[], .inl ⟨rfl, rfl, rfl, rfl⟩⟩
    · simp at hcs
      obtain ⟨rfl, rfl, rfl⟩ := hcs
      have hd := congrArg Prod.fst hxx
      have hs := sized_slice (sized_in hsz (j := 0) (t := 24) rfl rfl) (j := 2) (t := 22) (e := 5) rfl (congrArg some hd) Try.underlying22
      rw [show Try.prog.bytesOf 5 = 1 from by kernel_rfl] at hs
      have hzl : zs.length = cap0 := by simpa using hz
      simp only [lits, List.length_map, List.length_take, List.length_drop, reachBytes] at hs
      exact ⟨zs, .inr ⟨_, rfl, hl, by omega, by simpa using hz, hcell, hwz⟩⟩
  have k1 := h1
  have lt1 : ∀ x ∈ p1, x.block < W.heap.size := by obtain ⟨m, hm⟩ := k1; exact DataW.trod_lt m _ _ _ hm
  obtain ⟨f1, g1, s1, y1, x1, e1, m1, rfl, rfl, rfl, hf1, hg1, hs1⟩ := open_agg3 Try.underlying24 (by kernel_rfl) cellsM (hval 1 24 va1 rfl rfl) h1
  obtain ⟨r1, er1, rfl, u1⟩ := DataW.trod_int Try.underlying3 hf1
  obtain ⟨c1, ec1, rfl, v1⟩ := DataW.trod_int Try.underlying3 hg1
  simp only [List.cons.injEq, and_true] at er1 ec1
  subst er1 ec1
  obtain ⟨a1, len1, cap1, rfl⟩ : ∃ a l c, s1 = .slice a l c := by
    rcases open_ints Try.underlying22 Try.underlying5 (by kernel_rfl) hs1 with ⟨hcs, _⟩ | ⟨x, l, c, zs, hcs, _⟩
    · simp only [List.cons.injEq, and_true] at hcs; exact ⟨_, _, _, hcs⟩
    · simp only [List.cons.injEq, and_true] at hcs; exact ⟨_, _, _, hcs⟩
  obtain ⟨z1, w1⟩ : ∃ zs, IsRow .u8 W a1 len1 cap1 zs := by
    obtain ⟨fuel, hf⟩ := (⟨m1, hs1⟩ : ∃ fuel, DataW.trod enc Try.prog W 0 (fun _ => true) true fuel 22 [.slice a1 len1 cap1] = some e1)
    rcases open_ints Try.underlying22 Try.underlying5 (by kernel_rfl) hf with ⟨hcs, _⟩ | ⟨x, l, c, zs, hcs, _, hl, hm, hz, hxx, hcell, hwz⟩
    · simp at hcs
      obtain ⟨rfl, rfl, rfl⟩ := hcs
      exact ⟨[], .inl ⟨rfl, rfl, rfl, rfl⟩⟩
    · simp at hcs
      obtain ⟨rfl, rfl, rfl⟩ := hcs
      have hd := congrArg Prod.fst hxx
      have hs := sized_slice (sized_in hsz (j := 1) (t := 24) rfl rfl) (j := 2) (t := 22) (e := 5) rfl (congrArg some hd) Try.underlying22
      rw [show Try.prog.bytesOf 5 = 1 from by kernel_rfl] at hs
      have hzl : zs.length = cap1 := by simpa using hz
      simp only [lits, List.length_map, List.length_take, List.length_drop, reachBytes] at hs
      exact ⟨zs, .inr ⟨_, rfl, hl, by omega, by simpa using hz, hcell, hwz⟩⟩
  clear hA0 hval0
  refine (walk r0 c0 a0 len0 cap0 z0 r1 c1 a1 len1 cap1 z1 W u0 v0 w0 u1 v1 w1).mono fun e W' ⟨he, bel⟩ => ?_
  subst he
  exact ⟨_, rfl, _, _, _, [], _, [], hW', trodAll_mk1 (shut_bool Try.underlying4 _), (trodAll_cons_mk (Below.trod laidOut (by kernel_rfl) (of_decide_eq_true (by kernel_rfl)) k0 bel lt0) (trodAll_cons_mk (Below.trod laidOut (by kernel_rfl) (of_decide_eq_true (by kernel_rfl)) k1 bel lt1) trodAll_mk0)), rfl, bel.frame _, fun h => by cases h⟩
theorem over : Rows.gaussProductRow.holds Try.pinned (OpenSpec.ofChange Rows.gaussProductSpec) :=
  OpenClaim.holds_of_wide 6 Try.f6 rfl rfl rfl rfl rfl rfl rfl ⟨rfl, rfl, rfl, rfl, rfl⟩ rfl rfl rfl rfl rfl (by kernel_rfl) Try.func6 (by kernel_rfl)
    (of_decide_eq_true (by kernel_rfl)) (by unfold Func.isWrapper; first | (rw [if_pos (by decide +kernel)]; kernel_rfl) | (rw [if_neg (by decide +kernel)]; exact ⟨rfl, rfl⟩))
    (fun os started H enc _ => lifted os started H enc)
theorem proved : Rows.GaussProductSaid := over
#print axioms proved
end Go.Proofs.Ytfplhaelpbocjab.gaussProduct
