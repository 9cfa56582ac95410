/-
  Proved: for all matrices a and b and every list x the program's Mul and Apply answer the document's, or its error (P3.3); no condition.
-/
import Derived.Test.YtaoehildaenbnaaMo
import Derived.WalkKit
import Derived.SizedLaws
import Derived.ProofKit
import Derived.OpenShut
import Derived.ShutString
import Derived.ChangeOld
import Derived.Below
import Derived.Lib.SmallJoins
import Derived.Deep.Matrix
namespace Go.Proofs.Ytaoehildaenbnaa.matrixProducts
open Go.ChangeShapes Go.WideShapes Go.ChangeAt Go.RowKit Go.Joins
set_option linter.unusedVariables false
theorem own : ownKnob Try.prog.godebug = none := by kernel_rfl
theorem laidOut : laidOutB Try.prog = true := by kernel_rfl
/-- A slice of integers that came in. -/
def IsRow (k : IntKind) (w : World) (a : Option Addr) (len cap : Nat) (zs : List Int) : Prop :=
  (a = none ∧ len = 0 ∧ cap = 0 ∧ zs = []) ∨
  ∃ x, a = some x ∧ len ≤ cap ∧ cap ≤ 140737488351232 ∧ zs.length = cap ∧ (∀ i, i < zs.length → w.cell? (x.add i) = some (.int k (zs.getD i 0))) ∧ ∀ n ∈ zs, (Lit.int k n).wf = true
/-- A slice of slices of bytes that came in. -/
def IsRows (w : World) (a : Option Addr) (len cap : Nat) : Prop :=
  (a = none ∧ len = 0 ∧ cap = 0) ∨
  ∃ x, a = some x ∧ len ≤ cap ∧ cap ≤ 140737488351232 ∧ ∀ r, r < cap → ∃ b l c zs, w.cell? (x.add r) = some (.slice b l c) ∧ IsRow .u8 w b l c zs
theorem sized_in {H : Type} {P : Program} {ts : List TypeId} {ds : List (DataW H)} (h : (DataW.weightsEach P ts ds).all (· ≤ reachBytes) = true) {j : Nat} {t : TypeId} {d : DataW H} (ht : ts[j]? = some t) (hd : ds[j]? = some d) : (d.weights P t).all (· ≤ reachBytes) = true :=
  List.all_eq_true.2 fun n hn => List.all_eq_true.1 h n (DataW.weights_mem_each ht hd n hn)
theorem sized_all {H : Type} {P : Program} {e : TypeId} : ∀ {ds : List (DataW H)}, (DataW.weightsAll P e ds).all (· ≤ reachBytes) = true → ∀ d ∈ ds, (d.weights P e).all (· ≤ reachBytes) = true
  | [], _, d, hd => by simp at hd
  | d0 :: r, h, d, hd => by
    simp only [DataW.weightsAll, List.all_append, Bool.and_eq_true] at h
    rcases List.mem_cons.1 hd with rfl | hd
    · exact h.1
    · exact sized_all h.2 d hd
theorem cellsM : Try.prog.cellsOf 24 = 3 := by kernel_rfl

set_option maxRecDepth 20000 in
set_option maxHeartbeats 8000000 in
theorem walk (r0 c0 : Int) (a0 : Option Addr) (len0 cap0 : Nat) (z0 : List Int) (r1 c1 : Int) (a1 : Option Addr) (len1 cap1 : Nat) (z1 : List Int) (a2 : Option Addr) (len2 cap2 : Nat) (z2 : List Int) (w : World) (u0 : (Lit.int .i64 r0).wf = true) (v0 : (Lit.int .i64 c0).wf = true) (w0 : IsRow .u8 w a0 len0 cap0 z0) (u1 : (Lit.int .i64 r1).wf = true) (v1 : (Lit.int .i64 c1).wf = true) (w1 : IsRow .u8 w a1 len1 cap1 z1) (w2 : IsRow .u8 w a2 len2 cap2 z2) :
    Calls Try.prog 5 #[.agg #[.int .i64 r0, .int .i64 c0, .slice a0 len0 cap0], .agg #[.int .i64 r1, .int .i64 c1, .slice a1 len1 cap1], .slice a2 len2 cap2] w fun e w' => e = .returned (.bool true) ∧ Below w.heap.size w w' := by
  obtain ⟨F0, hM0, hn0⟩ := mt_of_row w a0 len0 cap0 z0 w0
  have HM_m0 : Hid (Mt w a0 len0 cap0 F0) := hM0
  obtain ⟨F1, hM1, hn1⟩ := mt_of_row w a1 len1 cap1 z1 w1
  have HM_m1 : Hid (Mt w a1 len1 cap1 F1) := hM1
  obtain ⟨F2, hM2, hn2⟩ := mt_of_row w a2 len2 cap2 z2 w2
  have HM_m2 : Hid (Mt w a2 len2 cap2 F2) := hM2
  obtain ⟨R, C, N, f, E, hp⟩ := mul_pair r0 c0 r1 c1 len0 len1 F0 F1 hM0.sl.1
  have HP := hid_of hp
  obtain ⟨N2, f2, E2, hq⟩ := apply_pair r0 c0 len0 len2 F0 F2 hM0.sl.1
  have HQ := hid_of hq
  clear hp hq hM0 hM1 hM2 w0 w1 w2 u0 u1 v0 v1 hn0 hn1 hn2
  obtain ⟨wb, HW⟩ : ∃ wb, Hid (wb = ((w.alloc (.cells #[.int .i64 r0, .int .i64 c0, .slice a0 len0 cap0] 24)).alloc (.cells #[.int .i64 r1, .int .i64 c1, .slice a1 len1 cap1] 24))) := ⟨_, rfl⟩
  have HV_m0_0 : Hid (Vr wb w.heap.size (.int .i64 r0) (.int .i64 c0) (.slice a0 len0 cap0)) := by show Vr _ _ _ _ _; rw [HW.out]; have := (Vr.new w (.int .i64 r0) (.int .i64 c0) (.slice a0 len0 cap0)).later (alloc_low _ (.cells #[.int .i64 r1, .int .i64 c1, .slice a1 len1 cap1] 24)); simpa using this
  have HV_m1_0 : Hid (Vr wb (w.heap.size + 1) (.int .i64 r1) (.int .i64 c1) (.slice a1 len1 cap1)) := by show Vr _ _ _ _ _; rw [HW.out]; have := Vr.new (w.alloc (.cells #[.int .i64 r0, .int .i64 c0, .slice a0 len0 cap0] 24)) (.int .i64 r1) (.int .i64 c1) (.slice a1 len1 cap1); simpa using this
  have HB_0 : Hid (Below w.heap.size w wb) := by rw [HW.out]; exact two_below (alloc_low _ _) (alloc_low _ _)
  have HM_m0_0 : Hid (Mt wb a0 len0 cap0 F0) := HM_m0.out.later HB_0.out
  have HM_m1_0 : Hid (Mt wb a1 len1 cap1 F1) := HM_m1.out.later HB_0.out
  have HM_m2_0 : Hid (Mt wb a2 len2 cap2 F2) := HM_m2.out.later HB_0.out
  clear HM_m0 HM_m1 HM_m2
  go_enter Try.func5, Try.ntmps5
  go_wp2_with (first
    | (go_at_call 20; have _x := HB_5; refine (same_at _ s3 s4 N2 d3 d4 f2 HM_u_5.out.sl HM_v_5.out.sl).mono ?_; rintro e w' ⟨rfl, rfl⟩; have HB_6 := HB_5; have HV_m0_6 := HV_m0_5; have HV_m1_6 := HV_m1_5; have HV_p_6 := HV_p_5; have HV_q_6 := HV_q_5; have HM_m0_6 := HM_m0_5; have HM_m1_6 := HM_m1_5; have HM_m2_6 := HM_m2_5; have HM_p_6 := HM_p_5; have HM_q_6 := HM_q_5; have HM_u_6 := HM_u_5; have HM_v_6 := HM_v_5; clear HV_m0_5 HV_m1_5 HV_p_5 HV_q_5 HM_m0_5 HM_m1_5 HM_m2_5 HM_p_5 HM_q_5 HM_u_5 HM_v_5)
    | (go_at_call 15; have _x := HB_4; refine (like3_any _ R C R C E E s1 s2 N N d1 d2 f f HM_p_4.out.sl HM_q_4.out.sl true (hid_of (like_self R C E N f))).mono ?_; rintro e w5 ⟨rfl, hb5⟩; have HB_5 : Hid (Below w.heap.size w w5) := two_below HB_4.out hb5; have HV_m0_5 : Hid (Vr w5 w.heap.size (.int .i64 r0) (.int .i64 c0) (.slice a0 len0 cap0)) := HV_m0_4.out.later hb5; have HV_m1_5 : Hid (Vr w5 (w.heap.size + 1) (.int .i64 r1) (.int .i64 c1) (.slice a1 len1 cap1)) := HV_m1_4.out.later hb5; have HV_p_5 : Hid (Vr w5 w1.heap.size (.int .i64 R) (.int .i64 C) (.slice s1 N d1)) := HV_p_4.out.later hb5; have HV_q_5 : Hid (Vr w5 w2.heap.size (.int .i64 R) (.int .i64 C) (.slice s2 N d2)) := HV_q_4.out.later hb5; have HM_m0_5 : Hid (Mt w5 a0 len0 cap0 F0) := HM_m0_4.out.later hb5; have HM_m1_5 : Hid (Mt w5 a1 len1 cap1 F1) := HM_m1_4.out.later hb5; have HM_m2_5 : Hid (Mt w5 a2 len2 cap2 F2) := HM_m2_4.out.later hb5; have HM_p_5 : Hid (Mt w5 s1 N d1 f) := HM_p_4.out.later hb5; have HM_q_5 : Hid (Mt w5 s2 N d2 f) := HM_q_4.out.later hb5; have HM_u_5 : Hid (Mt w5 s3 N2 d3 f2) := HM_u_4.out.later hb5; have HM_v_5 : Hid (Mt w5 s4 N2 d4 f2) := HM_v_4.out.later hb5; clear HV_m0_4 HV_m1_4 HV_p_4 HV_q_4 HM_m0_4 HM_m1_4 HM_m2_4 HM_p_4 HM_q_4 HM_u_4 HM_v_4 hb5)
    | (go_at_call 26; have _x := HB_3; refine ((HQ.out _ _ _ _ _ HM_m0_3.out HM_m2_3.out.sl).2).mono ?_; rintro e w4 ⟨s4, d4, rfl, hs4, hb4⟩; have HB_4 : Hid (Below w.heap.size w w4) := two_below HB_3.out hb4; have HV_m0_4 : Hid (Vr w4 w.heap.size (.int .i64 r0) (.int .i64 c0) (.slice a0 len0 cap0)) := HV_m0_3.out.later hb4; have HV_m1_4 : Hid (Vr w4 (w.heap.size + 1) (.int .i64 r1) (.int .i64 c1) (.slice a1 len1 cap1)) := HV_m1_3.out.later hb4; have HV_p_4 : Hid (Vr w4 w1.heap.size (.int .i64 R) (.int .i64 C) (.slice s1 N d1)) := HV_p_3.out.later hb4; have HV_q_4 : Hid (Vr w4 w2.heap.size (.int .i64 R) (.int .i64 C) (.slice s2 N d2)) := HV_q_3.out.later hb4; have HM_m0_4 : Hid (Mt w4 a0 len0 cap0 F0) := HM_m0_3.out.later hb4; have HM_m1_4 : Hid (Mt w4 a1 len1 cap1 F1) := HM_m1_3.out.later hb4; have HM_m2_4 : Hid (Mt w4 a2 len2 cap2 F2) := HM_m2_3.out.later hb4; have HM_p_4 : Hid (Mt w4 s1 N d1 f) := HM_p_3.out.later hb4; have HM_q_4 : Hid (Mt w4 s2 N d2 f) := HM_q_3.out.later hb4; have HM_u_4 : Hid (Mt w4 s3 N2 d3 f2) := HM_u_3.out.later hb4; have HM_v_4 : Hid (Mt w4 s4 N2 d4 f2) := hs4; have x_p_0_4 := HV_p_4.out.c0; have x_p_1_4 := HV_p_4.out.c1; have x_p_2_4 := HV_p_4.out.c2; have x_q_0_4 := HV_q_4.out.c0; have x_q_1_4 := HV_q_4.out.c1; have x_q_2_4 := HV_q_4.out.c2; clear HV_m0_3 HV_m1_3 HV_p_3 HV_q_3 HM_m0_3 HM_m1_3 HM_m2_3 HM_p_3 HM_q_3 HM_u_3 hb4 hs4)
    | (go_at_call 25; have _x := HB_2; refine ((HQ.out _ _ _ _ _ HM_m0_2.out HM_m2_2.out.sl).1).mono ?_; rintro e w3 ⟨s3, d3, rfl, hs3, hb3⟩; have HB_3 : Hid (Below w.heap.size w w3) := two_below HB_2.out hb3; have HV_m0_3 : Hid (Vr w3 w.heap.size (.int .i64 r0) (.int .i64 c0) (.slice a0 len0 cap0)) := HV_m0_2.out.later hb3; have HV_m1_3 : Hid (Vr w3 (w.heap.size + 1) (.int .i64 r1) (.int .i64 c1) (.slice a1 len1 cap1)) := HV_m1_2.out.later hb3; have HV_p_3 : Hid (Vr w3 w1.heap.size (.int .i64 R) (.int .i64 C) (.slice s1 N d1)) := HV_p_2.out.later hb3; have HV_q_3 : Hid (Vr w3 w2.heap.size (.int .i64 R) (.int .i64 C) (.slice s2 N d2)) := HV_q_2.out.later hb3; have HM_m0_3 : Hid (Mt w3 a0 len0 cap0 F0) := HM_m0_2.out.later hb3; have HM_m1_3 : Hid (Mt w3 a1 len1 cap1 F1) := HM_m1_2.out.later hb3; have HM_m2_3 : Hid (Mt w3 a2 len2 cap2 F2) := HM_m2_2.out.later hb3; have HM_p_3 : Hid (Mt w3 s1 N d1 f) := HM_p_2.out.later hb3; have HM_q_3 : Hid (Mt w3 s2 N d2 f) := HM_q_2.out.later hb3; have HM_u_3 : Hid (Mt w3 s3 N2 d3 f2) := hs3; have x_m0_0_3 := HV_m0_3.out.c0; have x_m0_1_3 := HV_m0_3.out.c1; have x_m0_2_3 := HV_m0_3.out.c2; clear HV_m0_2 HV_m1_2 HV_p_2 HV_q_2 HM_m0_2 HM_m1_2 HM_m2_2 HM_p_2 HM_q_2 hb3 hs3)
    | (go_at_call 24; have _x := HB_1; refine ((HP.out _ _ _ _ _ HM_m0_1.out HM_m1_1.out).2).mono ?_; rintro e w2 ⟨s2, d2, rfl, hs2, hb2⟩; have HB_2 : Hid (Below w.heap.size w (w2.alloc (.cells #[.int .i64 R, .int .i64 C, .slice s2 N d2] 24))) := two_below (two_below HB_1.out hb2) (alloc_low _ _); have HV_m0_2 : Hid (Vr (w2.alloc (.cells #[.int .i64 R, .int .i64 C, .slice s2 N d2] 24)) w.heap.size (.int .i64 r0) (.int .i64 c0) (.slice a0 len0 cap0)) := (HV_m0_1.out.later hb2).later (alloc_low _ _); have HV_m1_2 : Hid (Vr (w2.alloc (.cells #[.int .i64 R, .int .i64 C, .slice s2 N d2] 24)) (w.heap.size + 1) (.int .i64 r1) (.int .i64 c1) (.slice a1 len1 cap1)) := (HV_m1_1.out.later hb2).later (alloc_low _ _); have HV_p_2 : Hid (Vr (w2.alloc (.cells #[.int .i64 R, .int .i64 C, .slice s2 N d2] 24)) w1.heap.size (.int .i64 R) (.int .i64 C) (.slice s1 N d1)) := (HV_p_1.out.later hb2).later (alloc_low _ _); have HM_m0_2 : Hid (Mt (w2.alloc (.cells #[.int .i64 R, .int .i64 C, .slice s2 N d2] 24)) a0 len0 cap0 F0) := (HM_m0_1.out.later hb2).later (alloc_low _ _); have HM_m1_2 : Hid (Mt (w2.alloc (.cells #[.int .i64 R, .int .i64 C, .slice s2 N d2] 24)) a1 len1 cap1 F1) := (HM_m1_1.out.later hb2).later (alloc_low _ _); have HM_m2_2 : Hid (Mt (w2.alloc (.cells #[.int .i64 R, .int .i64 C, .slice s2 N d2] 24)) a2 len2 cap2 F2) := (HM_m2_1.out.later hb2).later (alloc_low _ _); have HM_p_2 : Hid (Mt (w2.alloc (.cells #[.int .i64 R, .int .i64 C, .slice s2 N d2] 24)) s1 N d1 f) := (HM_p_1.out.later hb2).later (alloc_low _ _); have HV_q_2 : Hid (Vr (w2.alloc (.cells #[.int .i64 R, .int .i64 C, .slice s2 N d2] 24)) w2.heap.size (.int .i64 R) (.int .i64 C) (.slice s2 N d2)) := Vr.new w2 _ _ _; have HM_q_2 : Hid (Mt (w2.alloc (.cells #[.int .i64 R, .int .i64 C, .slice s2 N d2] 24)) s2 N d2 f) := hs2.later (alloc_low _ _); have x_m0_0_2 := HV_m0_2.out.c0; have x_m0_1_2 := HV_m0_2.out.c1; have x_m0_2_2 := HV_m0_2.out.c2; clear HV_m0_1 HV_m1_1 HV_p_1 HM_m0_1 HM_m1_1 HM_m2_1 HM_p_1 hb2 hs2)
    | (go_at_call 23; rw [← HW.out]; refine ((HP.out _ _ _ _ _ HM_m0_0.out HM_m1_0.out).1).mono ?_; rintro e w1 ⟨s1, d1, rfl, hs1, hb1⟩; have HB_1 : Hid (Below w.heap.size w (w1.alloc (.cells #[.int .i64 R, .int .i64 C, .slice s1 N d1] 24))) := two_below (two_below HB_0.out hb1) (alloc_low _ _); have HV_m0_1 : Hid (Vr (w1.alloc (.cells #[.int .i64 R, .int .i64 C, .slice s1 N d1] 24)) w.heap.size (.int .i64 r0) (.int .i64 c0) (.slice a0 len0 cap0)) := (HV_m0_0.out.later hb1).later (alloc_low _ _); have HV_m1_1 : Hid (Vr (w1.alloc (.cells #[.int .i64 R, .int .i64 C, .slice s1 N d1] 24)) (w.heap.size + 1) (.int .i64 r1) (.int .i64 c1) (.slice a1 len1 cap1)) := (HV_m1_0.out.later hb1).later (alloc_low _ _); have HM_m0_1 : Hid (Mt (w1.alloc (.cells #[.int .i64 R, .int .i64 C, .slice s1 N d1] 24)) a0 len0 cap0 F0) := (HM_m0_0.out.later hb1).later (alloc_low _ _); have HM_m1_1 : Hid (Mt (w1.alloc (.cells #[.int .i64 R, .int .i64 C, .slice s1 N d1] 24)) a1 len1 cap1 F1) := (HM_m1_0.out.later hb1).later (alloc_low _ _); have HM_m2_1 : Hid (Mt (w1.alloc (.cells #[.int .i64 R, .int .i64 C, .slice s1 N d1] 24)) a2 len2 cap2 F2) := (HM_m2_0.out.later hb1).later (alloc_low _ _); have HV_p_1 : Hid (Vr (w1.alloc (.cells #[.int .i64 R, .int .i64 C, .slice s1 N d1] 24)) w1.heap.size (.int .i64 R) (.int .i64 C) (.slice s1 N d1)) := Vr.new w1 _ _ _; have HM_p_1 : Hid (Mt (w1.alloc (.cells #[.int .i64 R, .int .i64 C, .slice s1 N d1] 24)) s1 N d1 f) := hs1.later (alloc_low _ _); have x_m0_0_1 := HV_m0_1.out.c0; have x_m0_1_1 := HV_m0_1.out.c1; have x_m0_2_1 := HV_m0_1.out.c2; have x_m1_0_1 := HV_m1_1.out.c0; have x_m1_1_1 := HV_m1_1.out.c1; have x_m1_2_1 := HV_m1_1.out.c2; clear HV_m0_0 HV_m1_0 HM_m0_0 HM_m1_0 HM_m2_0 hb1 hs1))
  go_ret
  exact ⟨rfl, HB_6.out⟩
set_option maxRecDepth 100000 in
set_option maxHeartbeats 2000000 in
theorem lifted (os : Os) (started : os.Started) (H : Type) (enc : TypeId × Value → H) :
    ReturnsInHanded {} Try.checked os 5 .any (Rows.matrixProductsSpec.pre6 enc Try.prog Try.f5 Rows.matrixProductsRow.domain false) (Rows.matrixProductsSpec.post enc Try.prog Try.f5 false true false false) := by
  refine returnsInHanded_of_change_sized (C := Try.checked) own started (by kernel_rfl) Try.func5
    (ChangeSpec.witness6 (enc := enc) (C := Try.checked) false ⟨#[], #[.agg #[.int .i64 0, .int .i64 0, .slice none 0 0], .agg #[.int .i64 0, .int .i64 0, .slice none 0 0], .slice none 0 0], []⟩ 8 (by kernel_rfl) (by kernel_rfl) (by kernel_rfl) (by kernel_rfl)) ?_
  intro W base args ds gs before hval0 hW hcnd hsz0 _
  have hsz : (DataW.weightsEach Try.prog (Try.f5.params.toList ++ Rows.matrixProductsSpec.plain.varTypes Try.prog) (ds ++ gs)).all (· ≤ reachBytes) = true := hsz0
  clear hsz0
  have hval : ∀ (j : Nat) t v, Try.f5.params[j]? = some t → args[j]? = some v → Value.okWide Try.prog W .any base t v := hval0
  have hW' := hW
  obtain ⟨p, q, hA0, hV, rfl, hfz, hnd⟩ := hW
  have hA : DataW.TrodAll enc Try.prog W 0 (fun _ => true) true Try.f5.params.toList args.toList ds p := hA0
  rw [Try.params5] at hA hval hsz
  obtain ⟨va0, vs0, d0, ds0, p0, q0, hargs, rfl, rfl, h0, tr0⟩ := trodAll_cons hA
  obtain ⟨va1, vs1, d1, ds1, p1, q1, rfl, rfl, rfl, h1, tr1⟩ := trodAll_cons tr0
  obtain ⟨va2, vs2, d2, ds2, p2, q2, rfl, rfl, rfl, h2, tr2⟩ := trodAll_cons tr1
  obtain ⟨rfl, rfl, rfl⟩ := trodAll_nil tr2
  obtain rfl : args = #[va0, va1, va2] := by cases args; simp_all
  obtain ⟨rfl, rfl⟩ := trodVars_none hV
  have k0 := h0
  have lt0 : ∀ x ∈ p0, x.block < W.heap.size := by obtain ⟨m, hm⟩ := k0; exact DataW.trod_lt m _ _ _ hm
  obtain ⟨f0, g0, s0, y0, x0, e0, m0, rfl, rfl, rfl, hf0, hg0, hs0⟩ := open_agg3 Try.underlying24 (by kernel_rfl) cellsM (hval 0 24 va0 rfl rfl) h0
  obtain ⟨r0, er0, rfl, u0⟩ := DataW.trod_int Try.underlying3 hf0
  obtain ⟨c0, ec0, rfl, v0⟩ := DataW.trod_int Try.underlying3 hg0
  simp only [List.cons.injEq, and_true] at er0 ec0
  subst er0 ec0
  obtain ⟨a0, len0, cap0, rfl⟩ : ∃ a l c, s0 = .slice a l c := by
    rcases open_ints Try.underlying22 Try.underlying5 (by kernel_rfl) hs0 with ⟨hcs, _⟩ | ⟨x, l, c, zs, hcs, _⟩
    · simp only [List.cons.injEq, and_true] at hcs; exact ⟨_, _, _, hcs⟩
    · simp only [List.cons.injEq, and_true] at hcs; exact ⟨_, _, _, hcs⟩
  obtain ⟨z0, w0⟩ : ∃ zs, IsRow .u8 W a0 len0 cap0 zs := by
    obtain ⟨fuel, hf⟩ := (⟨m0, hs0⟩ : ∃ fuel, DataW.trod enc Try.prog W 0 (fun _ => true) true fuel 22 [.slice a0 len0 cap0] = some e0)
    rcases open_ints Try.underlying22 Try.underlying5 (by kernel_rfl) hf with ⟨hcs, _⟩ | ⟨x, l, c, zs, hcs, _, hl, hm, hz, hxx, hcell, hwz⟩
    · simp at hcs
      obtain ⟨rfl, rfl, rfl⟩ := hcs
      exact ⟨[], .inl ⟨rfl, rfl, rfl, rfl⟩⟩
    · simp at hcs
      obtain ⟨rfl, rfl, rfl⟩ := hcs
      have hd := congrArg Prod.fst hxx
      have hs := sized_slice (sized_in hsz (j := 0) (t := 24) rfl rfl) (j := 2) (t := 22) (e := 5) rfl (congrArg some hd) Try.underlying22
      rw [show Try.prog.bytesOf 5 = 1 from by kernel_rfl] at hs
      have hzl : zs.length = cap0 := by simpa using hz
      simp only [lits, List.length_map, List.length_take, List.length_drop, reachBytes] at hs
      exact ⟨zs, .inr ⟨_, rfl, hl, by omega, by simpa using hz, hcell, hwz⟩⟩
  have k1 := h1
  have lt1 : ∀ x ∈ p1, x.block < W.heap.size := by obtain ⟨m, hm⟩ := k1; exact DataW.trod_lt m _ _ _ hm
  obtain ⟨f1, g1, s1, y1, x1, e1, m1, rfl, rfl, rfl, hf1, hg1, hs1⟩ := open_agg3 Try.underlying24 (by kernel_rfl) cellsM (hval 1 24 va1 rfl rfl) h1
  obtain ⟨r1, er1, rfl, u1⟩ := DataW.trod_int Try.underlying3 hf1
  obtain ⟨c1, ec1, rfl, v1⟩ := DataW.trod_int Try.underlying3 hg1
  simp only [List.cons.injEq, and_true] at er1 ec1
  subst er1 ec1
  obtain ⟨a1, len1, cap1, rfl⟩ : ∃ a l c, s1 = .slice a l c := by
    rcases open_ints Try.underlying22 Try.underlying5 (by kernel_rfl) hs1 with ⟨hcs, _⟩ | ⟨x, l, c, zs, hcs, _⟩
    · simp only [List.cons.injEq, and_true] at hcs; exact ⟨_, _, _, hcs⟩
    · simp only [List.cons.injEq, and_true] at hcs; exact ⟨_, _, _, hcs⟩
  obtain ⟨z1, w1⟩ : ∃ zs, IsRow .u8 W a1 len1 cap1 zs := by
    obtain ⟨fuel, hf⟩ := (⟨m1, hs1⟩ : ∃ fuel, DataW.trod enc Try.prog W 0 (fun _ => true) true fuel 22 [.slice a1 len1 cap1] = some e1)
    rcases open_ints Try.underlying22 Try.underlying5 (by kernel_rfl) hf with ⟨hcs, _⟩ | ⟨x, l, c, zs, hcs, _, hl, hm, hz, hxx, hcell, hwz⟩
    · simp at hcs
      obtain ⟨rfl, rfl, rfl⟩ := hcs
      exact ⟨[], .inl ⟨rfl, rfl, rfl, rfl⟩⟩
    · simp at hcs
      obtain ⟨rfl, rfl, rfl⟩ := hcs
      have hd := congrArg Prod.fst hxx
      have hs := sized_slice (sized_in hsz (j := 1) (t := 24) rfl rfl) (j := 2) (t := 22) (e := 5) rfl (congrArg some hd) Try.underlying22
      rw [show Try.prog.bytesOf 5 = 1 from by kernel_rfl] at hs
      have hzl : zs.length = cap1 := by simpa using hz
      simp only [lits, List.length_map, List.length_take, List.length_drop, reachBytes] at hs
      exact ⟨zs, .inr ⟨_, rfl, hl, by omega, by simpa using hz, hcell, hwz⟩⟩
  have k2 := h2
  have lt2 : ∀ x ∈ p2, x.block < W.heap.size := by obtain ⟨m, hm⟩ := k2; exact DataW.trod_lt m _ _ _ hm
  obtain ⟨a2, len2, cap2, rfl⟩ := okWide_slice Try.underlying22 (hval 2 22 va2 rfl rfl)
  obtain ⟨z2, w2⟩ : ∃ zs, IsRow .u8 W a2 len2 cap2 zs := by
    obtain ⟨fuel, hf⟩ := h2
    rcases open_ints Try.underlying22 Try.underlying5 (by kernel_rfl) hf with ⟨hcs, _⟩ | ⟨x, l, c, zs, hcs, _, hl, hm, hz, hxx, hcell, hwz⟩
    · simp [Value.cells] at hcs
      obtain ⟨rfl, rfl, rfl⟩ := hcs
      exact ⟨[], .inl ⟨rfl, rfl, rfl, rfl⟩⟩
    · simp [Value.cells] at hcs
      obtain ⟨rfl, rfl, rfl⟩ := hcs
      have hd := congrArg Prod.fst hxx
      have hs := sized_slice hsz (j := 2) (t := 22) (e := 5) rfl (congrArg some hd) Try.underlying22
      rw [show Try.prog.bytesOf 5 = 1 from by kernel_rfl] at hs
      have hzl : zs.length = cap2 := by simpa using hz
      simp only [lits, List.length_map, List.length_take, List.length_drop, reachBytes] at hs
      exact ⟨zs, .inr ⟨_, rfl, hl, by omega, by simpa using hz, hcell, hwz⟩⟩
  clear hA0 hval0
  refine (walk r0 c0 a0 len0 cap0 z0 r1 c1 a1 len1 cap1 z1 a2 len2 cap2 z2 W u0 v0 w0 u1 v1 w1 w2).mono fun e W' ⟨he, bel⟩ => ?_
  subst he
  exact ⟨_, rfl, _, _, _, [], _, [], hW', trodAll_mk1 (shut_bool Try.underlying4 _), (trodAll_cons_mk (Below.trod laidOut (by kernel_rfl) (of_decide_eq_true (by kernel_rfl)) k0 bel lt0) (trodAll_cons_mk (Below.trod laidOut (by kernel_rfl) (of_decide_eq_true (by kernel_rfl)) k1 bel lt1) (trodAll_cons_mk (Below.trod laidOut (by kernel_rfl) (of_decide_eq_true (by kernel_rfl)) k2 bel lt2) trodAll_mk0))), rfl, bel.frame _, fun h => by cases h⟩
theorem over : Rows.matrixProductsRow.holds Try.pinned (OpenSpec.ofChange Rows.matrixProductsSpec) :=
  OpenClaim.holds_of_wide 5 Try.f5 rfl rfl rfl rfl rfl rfl rfl ⟨rfl, rfl, rfl, rfl, rfl⟩ rfl rfl rfl rfl rfl (by kernel_rfl) Try.func5 (by kernel_rfl)
    (of_decide_eq_true (by kernel_rfl)) (by unfold Func.isWrapper; first | (rw [if_pos (by decide +kernel)]; kernel_rfl) | (rw [if_neg (by decide +kernel)]; exact ⟨rfl, rfl⟩))
    (fun os started H enc _ => lifted os started H enc)
theorem proved : Rows.MatrixProductsSaid := over
#print axioms proved
end Go.Proofs.Ytaoehildaenbnaa.matrixProducts
