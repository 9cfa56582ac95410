/-
  Proved: for every matrix m and all numbers of rows and columns the program's Right, Make and Identity answer the document's, or its error (P3.1); no condition.
-/
import Derived.Test.YtaoehildaenbnaaMo
import Derived.Deep.RegionHeld3
import Derived.WalkKit
import Derived.SizedLaws
import Derived.ProofKit
import Derived.OpenShut
import Derived.ShutString
import Derived.ChangeOld
import Derived.Below
import Derived.Lib.SmallJoins
import Derived.Deep.Matrix
namespace Go.Proofs.Ytaoehildaenbnaa.matrixMade
open Go.ChangeShapes Go.WideShapes Go.ChangeAt Go.RowKit Go.Joins
set_option linter.unusedVariables false
theorem own : ownKnob Try.prog.godebug = none := by kernel_rfl
theorem laidOut : laidOutB Try.prog = true := by kernel_rfl
/-- A slice of integers that came in. -/
def IsRow (k : IntKind) (w : World) (a : Option Addr) (len cap : Nat) (zs : List Int) : Prop :=
  (a = none ∧ len = 0 ∧ cap = 0 ∧ zs = []) ∨
  ∃ x, a = some x ∧ len ≤ cap ∧ cap ≤ 140737488351232 ∧ zs.length = cap ∧ (∀ i, i < zs.length → w.cell? (x.add i) = some (.int k (zs.getD i 0))) ∧ ∀ n ∈ zs, (Lit.int k n).wf = true
/-- A slice of slices of bytes that came in. -/
def IsRows (w : World) (a : Option Addr) (len cap : Nat) : Prop :=
  (a = none ∧ len = 0 ∧ cap = 0) ∨
  ∃ x, a = some x ∧ len ≤ cap ∧ cap ≤ 140737488351232 ∧ ∀ r, r < cap → ∃ b l c zs, w.cell? (x.add r) = some (.slice b l c) ∧ IsRow .u8 w b l c zs
theorem sized_in {H : Type} {P : Program} {ts : List TypeId} {ds : List (DataW H)} (h : (DataW.weightsEach P ts ds).all (· ≤ reachBytes) = true) {j : Nat} {t : TypeId} {d : DataW H} (ht : ts[j]? = some t) (hd : ds[j]? = some d) : (d.weights P t).all (· ≤ reachBytes) = true :=
  List.all_eq_true.2 fun n hn => List.all_eq_true.1 h n (DataW.weights_mem_each ht hd n hn)
theorem sized_all {H : Type} {P : Program} {e : TypeId} : ∀ {ds : List (DataW H)}, (DataW.weightsAll P e ds).all (· ≤ reachBytes) = true → ∀ d ∈ ds, (d.weights P e).all (· ≤ reachBytes) = true
  | [], _, d, hd => by simp at hd
  | d0 :: r, h, d, hd => by
    simp only [DataW.weightsAll, List.all_append, Bool.and_eq_true] at h
    rcases List.mem_cons.1 hd with rfl | hd
    · exact h.1
    · exact sized_all h.2 d hd
theorem cellsM : Try.prog.cellsOf 24 = 3 := by kernel_rfl

set_option maxRecDepth 20000 in
set_option maxHeartbeats 8000000 in
theorem walk (r0 c0 : Int) (a0 : Option Addr) (len0 cap0 : Nat) (z0 : List Int) (n1 : Int) (n2 : Int) (w : World) (u0 : (Lit.int .i64 r0).wf = true) (v0 : (Lit.int .i64 c0).wf = true) (w0 : IsRow .u8 w a0 len0 cap0 z0) (w1 : (Lit.int .i64 n1).wf = true) (w2 : (Lit.int .i64 n2).wf = true) :
    Calls Try.prog 3 #[.agg #[.int .i64 r0, .int .i64 c0, .slice a0 len0 cap0], .int .i64 n1, .int .i64 n2] w fun e w' => e = .returned (.bool true) ∧ Below w.heap.size w w' := by
  obtain ⟨F0, hM0, hn0⟩ := mt_of_row w a0 len0 cap0 z0 w0
  have HM_m0 : Hid (Mt w a0 len0 cap0 F0) := hM0
  obtain ⟨R, C, N, f, E, hp⟩ := make_pair n1 n2
  have HP := hid_of hp
  obtain ⟨R2, C2, N2, f2, E2, hq⟩ := ident_pair n1
  have HQ := hid_of hq
  obtain ⟨x, hr⟩ := right_pair r0 c0 len0
  have HR := hid_of hr
  clear hp hq hr hM0 w0 w1 w2 u0 v0 hn0
  obtain ⟨wb, HW⟩ : ∃ wb, Hid (wb = (w.alloc (.cells #[.int .i64 r0, .int .i64 c0, .slice a0 len0 cap0] 24))) := ⟨_, rfl⟩
  have HV_m0_0 : Hid (Vr wb w.heap.size (.int .i64 r0) (.int .i64 c0) (.slice a0 len0 cap0)) := by show Vr _ _ _ _ _; rw [HW.out]; have := Vr.new w (.int .i64 r0) (.int .i64 c0) (.slice a0 len0 cap0); simpa using this
  have HB_0 : Hid (Below w.heap.size w wb) := by rw [HW.out]; exact alloc_low _ _
  have HM_m0_0 : Hid (Mt wb a0 len0 cap0 F0) := HM_m0.out.later HB_0.out
  clear HM_m0
  go_enter Try.func3, Try.ntmps3
  go_wp2_with (first
    | (go_at_call 12; have _x := HB_3; refine ((HQ.out _).2).mono ?_; rintro e w4 ⟨s4, d4, rfl, hs4, hb4⟩; have HB_4 : Hid (Below w.heap.size w (w4.alloc (.cells #[.int .i64 R2, .int .i64 C2, .slice s4 N2 d4] 24))) := two_below (two_below HB_3.out hb4) (alloc_low _ _); have HV_m0_4 : Hid (Vr (w4.alloc (.cells #[.int .i64 R2, .int .i64 C2, .slice s4 N2 d4] 24)) w.heap.size (.int .i64 r0) (.int .i64 c0) (.slice a0 len0 cap0)) := (HV_m0_3.out.later hb4).later (alloc_low _ _); have HV_p_4 : Hid (Vr (w4.alloc (.cells #[.int .i64 R2, .int .i64 C2, .slice s4 N2 d4] 24)) w1.heap.size (.int .i64 R) (.int .i64 C) (.slice s1 N d1)) := (HV_p_3.out.later hb4).later (alloc_low _ _); have HV_q_4 : Hid (Vr (w4.alloc (.cells #[.int .i64 R2, .int .i64 C2, .slice s4 N2 d4] 24)) w2.heap.size (.int .i64 R) (.int .i64 C) (.slice s2 N d2)) := (HV_q_3.out.later hb4).later (alloc_low _ _); have HV_s_4 : Hid (Vr (w4.alloc (.cells #[.int .i64 R2, .int .i64 C2, .slice s4 N2 d4] 24)) w3.heap.size (.int .i64 R2) (.int .i64 C2) (.slice s3 N2 d3)) := (HV_s_3.out.later hb4).later (alloc_low _ _); have HM_m0_4 : Hid (Mt (w4.alloc (.cells #[.int .i64 R2, .int .i64 C2, .slice s4 N2 d4] 24)) a0 len0 cap0 F0) := (HM_m0_3.out.later hb4).later (alloc_low _ _); have HM_p_4 : Hid (Mt (w4.alloc (.cells #[.int .i64 R2, .int .i64 C2, .slice s4 N2 d4] 24)) s1 N d1 f) := (HM_p_3.out.later hb4).later (alloc_low _ _); have HM_q_4 : Hid (Mt (w4.alloc (.cells #[.int .i64 R2, .int .i64 C2, .slice s4 N2 d4] 24)) s2 N d2 f) := (HM_q_3.out.later hb4).later (alloc_low _ _); have HM_s_4 : Hid (Mt (w4.alloc (.cells #[.int .i64 R2, .int .i64 C2, .slice s4 N2 d4] 24)) s3 N2 d3 f2) := (HM_s_3.out.later hb4).later (alloc_low _ _); have HV_t_4 : Hid (Vr (w4.alloc (.cells #[.int .i64 R2, .int .i64 C2, .slice s4 N2 d4] 24)) w4.heap.size (.int .i64 R2) (.int .i64 C2) (.slice s4 N2 d4)) := Vr.new w4 _ _ _; have HM_t_4 : Hid (Mt (w4.alloc (.cells #[.int .i64 R2, .int .i64 C2, .slice s4 N2 d4] 24)) s4 N2 d4 f2) := hs4.later (alloc_low _ _); clear HV_m0_3 HV_p_3 HV_q_3 HV_s_3 HM_m0_3 HM_p_3 HM_q_3 HM_s_3 hb4 hs4)
    | (go_at_call 11; have _x := HB_2; refine ((HQ.out _).1).mono ?_; rintro e w3 ⟨s3, d3, rfl, hs3, hb3⟩; have HB_3 : Hid (Below w.heap.size w (w3.alloc (.cells #[.int .i64 R2, .int .i64 C2, .slice s3 N2 d3] 24))) := two_below (two_below HB_2.out hb3) (alloc_low _ _); have HV_m0_3 : Hid (Vr (w3.alloc (.cells #[.int .i64 R2, .int .i64 C2, .slice s3 N2 d3] 24)) w.heap.size (.int .i64 r0) (.int .i64 c0) (.slice a0 len0 cap0)) := (HV_m0_2.out.later hb3).later (alloc_low _ _); have HV_p_3 : Hid (Vr (w3.alloc (.cells #[.int .i64 R2, .int .i64 C2, .slice s3 N2 d3] 24)) w1.heap.size (.int .i64 R) (.int .i64 C) (.slice s1 N d1)) := (HV_p_2.out.later hb3).later (alloc_low _ _); have HV_q_3 : Hid (Vr (w3.alloc (.cells #[.int .i64 R2, .int .i64 C2, .slice s3 N2 d3] 24)) w2.heap.size (.int .i64 R) (.int .i64 C) (.slice s2 N d2)) := (HV_q_2.out.later hb3).later (alloc_low _ _); have HM_m0_3 : Hid (Mt (w3.alloc (.cells #[.int .i64 R2, .int .i64 C2, .slice s3 N2 d3] 24)) a0 len0 cap0 F0) := (HM_m0_2.out.later hb3).later (alloc_low _ _); have HM_p_3 : Hid (Mt (w3.alloc (.cells #[.int .i64 R2, .int .i64 C2, .slice s3 N2 d3] 24)) s1 N d1 f) := (HM_p_2.out.later hb3).later (alloc_low _ _); have HM_q_3 : Hid (Mt (w3.alloc (.cells #[.int .i64 R2, .int .i64 C2, .slice s3 N2 d3] 24)) s2 N d2 f) := (HM_q_2.out.later hb3).later (alloc_low _ _); have HV_s_3 : Hid (Vr (w3.alloc (.cells #[.int .i64 R2, .int .i64 C2, .slice s3 N2 d3] 24)) w3.heap.size (.int .i64 R2) (.int .i64 C2) (.slice s3 N2 d3)) := Vr.new w3 _ _ _; have HM_s_3 : Hid (Mt (w3.alloc (.cells #[.int .i64 R2, .int .i64 C2, .slice s3 N2 d3] 24)) s3 N2 d3 f2) := hs3.later (alloc_low _ _); clear HV_m0_2 HV_p_2 HV_q_2 HM_m0_2 HM_p_2 HM_q_2 hb3 hs3)
    | (go_at_call 10; have _x := HB_1; refine ((HP.out _).2).mono ?_; rintro e w2 ⟨s2, d2, rfl, hs2, hb2⟩; have HB_2 : Hid (Below w.heap.size w (w2.alloc (.cells #[.int .i64 R, .int .i64 C, .slice s2 N d2] 24))) := two_below (two_below HB_1.out hb2) (alloc_low _ _); have HV_m0_2 : Hid (Vr (w2.alloc (.cells #[.int .i64 R, .int .i64 C, .slice s2 N d2] 24)) w.heap.size (.int .i64 r0) (.int .i64 c0) (.slice a0 len0 cap0)) := (HV_m0_1.out.later hb2).later (alloc_low _ _); have HV_p_2 : Hid (Vr (w2.alloc (.cells #[.int .i64 R, .int .i64 C, .slice s2 N d2] 24)) w1.heap.size (.int .i64 R) (.int .i64 C) (.slice s1 N d1)) := (HV_p_1.out.later hb2).later (alloc_low _ _); have HM_m0_2 : Hid (Mt (w2.alloc (.cells #[.int .i64 R, .int .i64 C, .slice s2 N d2] 24)) a0 len0 cap0 F0) := (HM_m0_1.out.later hb2).later (alloc_low _ _); have HM_p_2 : Hid (Mt (w2.alloc (.cells #[.int .i64 R, .int .i64 C, .slice s2 N d2] 24)) s1 N d1 f) := (HM_p_1.out.later hb2).later (alloc_low _ _); have HV_q_2 : Hid (Vr (w2.alloc (.cells #[.int .i64 R, .int .i64 C, .slice s2 N d2] 24)) w2.heap.size (.int .i64 R) (.int .i64 C) (.slice s2 N d2)) := Vr.new w2 _ _ _; have HM_q_2 : Hid (Mt (w2.alloc (.cells #[.int .i64 R, .int .i64 C, .slice s2 N d2] 24)) s2 N d2 f) := hs2.later (alloc_low _ _); clear HV_m0_1 HV_p_1 HM_m0_1 HM_p_1 hb2 hs2)
    | (go_at_call 9; rw [← HW.out]; refine ((HP.out _).1).mono ?_; rintro e w1 ⟨s1, d1, rfl, hs1, hb1⟩; have HB_1 : Hid (Below w.heap.size w (w1.alloc (.cells #[.int .i64 R, .int .i64 C, .slice s1 N d1] 24))) := two_below (two_below HB_0.out hb1) (alloc_low _ _); have HV_m0_1 : Hid (Vr (w1.alloc (.cells #[.int .i64 R, .int .i64 C, .slice s1 N d1] 24)) w.heap.size (.int .i64 r0) (.int .i64 c0) (.slice a0 len0 cap0)) := (HV_m0_0.out.later hb1).later (alloc_low _ _); have HM_m0_1 : Hid (Mt (w1.alloc (.cells #[.int .i64 R, .int .i64 C, .slice s1 N d1] 24)) a0 len0 cap0 F0) := (HM_m0_0.out.later hb1).later (alloc_low _ _); have HV_p_1 : Hid (Vr (w1.alloc (.cells #[.int .i64 R, .int .i64 C, .slice s1 N d1] 24)) w1.heap.size (.int .i64 R) (.int .i64 C) (.slice s1 N d1)) := Vr.new w1 _ _ _; have HM_p_1 : Hid (Mt (w1.alloc (.cells #[.int .i64 R, .int .i64 C, .slice s1 N d1] 24)) s1 N d1 f) := hs1.later (alloc_low _ _); clear HV_m0_0 HM_m0_0 hb1 hs1))
  have HD : Hid ((w4.alloc (.cells #[.int .i64 R2, .int .i64 C2, .slice s4 N2 d4] 24)).drew.cell? ⟨w.heap.size, 0, none⟩ = some (.int .i64 r0) ∧ (w4.alloc (.cells #[.int .i64 R2, .int .i64 C2, .slice s4 N2 d4] 24)).drew.cell? ⟨w.heap.size, 1, none⟩ = some (.int .i64 c0) ∧ (w4.alloc (.cells #[.int .i64 R2, .int .i64 C2, .slice s4 N2 d4] 24)).drew.cell? ⟨w.heap.size, 2, none⟩ = some (.slice a0 len0 cap0) ∧ (w4.alloc (.cells #[.int .i64 R2, .int .i64 C2, .slice s4 N2 d4] 24)).drew.cell? ⟨w1.heap.size, 0, none⟩ = some (.int .i64 R) ∧ (w4.alloc (.cells #[.int .i64 R2, .int .i64 C2, .slice s4 N2 d4] 24)).drew.cell? ⟨w1.heap.size, 1, none⟩ = some (.int .i64 C) ∧ (w4.alloc (.cells #[.int .i64 R2, .int .i64 C2, .slice s4 N2 d4] 24)).drew.cell? ⟨w1.heap.size, 2, none⟩ = some (.slice s1 N d1) ∧ (w4.alloc (.cells #[.int .i64 R2, .int .i64 C2, .slice s4 N2 d4] 24)).drew.cell? ⟨w2.heap.size, 0, none⟩ = some (.int .i64 R) ∧ (w4.alloc (.cells #[.int .i64 R2, .int .i64 C2, .slice s4 N2 d4] 24)).drew.cell? ⟨w2.heap.size, 1, none⟩ = some (.int .i64 C) ∧ (w4.alloc (.cells #[.int .i64 R2, .int .i64 C2, .slice s4 N2 d4] 24)).drew.cell? ⟨w2.heap.size, 2, none⟩ = some (.slice s2 N d2) ∧ (w4.alloc (.cells #[.int .i64 R2, .int .i64 C2, .slice s4 N2 d4] 24)).drew.cell? ⟨w3.heap.size, 0, none⟩ = some (.int .i64 R2) ∧ (w4.alloc (.cells #[.int .i64 R2, .int .i64 C2, .slice s4 N2 d4] 24)).drew.cell? ⟨w3.heap.size, 1, none⟩ = some (.int .i64 C2) ∧ (w4.alloc (.cells #[.int .i64 R2, .int .i64 C2, .slice s4 N2 d4] 24)).drew.cell? ⟨w3.heap.size, 2, none⟩ = some (.slice s3 N2 d3) ∧ (w4.alloc (.cells #[.int .i64 R2, .int .i64 C2, .slice s4 N2 d4] 24)).drew.cell? ⟨w4.heap.size, 0, none⟩ = some (.int .i64 R2) ∧ (w4.alloc (.cells #[.int .i64 R2, .int .i64 C2, .slice s4 N2 d4] 24)).drew.cell? ⟨w4.heap.size, 1, none⟩ = some (.int .i64 C2) ∧ (w4.alloc (.cells #[.int .i64 R2, .int .i64 C2, .slice s4 N2 d4] 24)).drew.cell? ⟨w4.heap.size, 2, none⟩ = some (.slice s4 N2 d4)) := ⟨HV_m0_4.out.c0, HV_m0_4.out.c1, HV_m0_4.out.c2, HV_p_4.out.c0, HV_p_4.out.c1, HV_p_4.out.c2, HV_q_4.out.c0, HV_q_4.out.c1, HV_q_4.out.c2, HV_s_4.out.c0, HV_s_4.out.c1, HV_s_4.out.c2, HV_t_4.out.c0, HV_t_4.out.c1, HV_t_4.out.c2⟩
  go_region_held3 (fun w' => w'.cell? ⟨w.heap.size, 0, none⟩ = some (.int .i64 r0) ∧ w'.cell? ⟨w.heap.size, 1, none⟩ = some (.int .i64 c0) ∧ w'.cell? ⟨w.heap.size, 2, none⟩ = some (.slice a0 len0 cap0) ∧ w'.cell? ⟨w1.heap.size, 0, none⟩ = some (.int .i64 R) ∧ w'.cell? ⟨w1.heap.size, 1, none⟩ = some (.int .i64 C) ∧ w'.cell? ⟨w1.heap.size, 2, none⟩ = some (.slice s1 N d1) ∧ w'.cell? ⟨w2.heap.size, 0, none⟩ = some (.int .i64 R) ∧ w'.cell? ⟨w2.heap.size, 1, none⟩ = some (.int .i64 C) ∧ w'.cell? ⟨w2.heap.size, 2, none⟩ = some (.slice s2 N d2) ∧ w'.cell? ⟨w3.heap.size, 0, none⟩ = some (.int .i64 R2) ∧ w'.cell? ⟨w3.heap.size, 1, none⟩ = some (.int .i64 C2) ∧ w'.cell? ⟨w3.heap.size, 2, none⟩ = some (.slice s3 N2 d3) ∧ w'.cell? ⟨w4.heap.size, 0, none⟩ = some (.int .i64 R2) ∧ w'.cell? ⟨w4.heap.size, 1, none⟩ = some (.int .i64 C2) ∧ w'.cell? ⟨w4.heap.size, 2, none⟩ = some (.slice s4 N2 d4))
    (first
      | exact HK_8.out
      | exact HK_7.out
      | exact HK_6.out
      | exact HK_5.out
      | exact HD.out)
    (first
      | (go_at_call 15; have _x := HB_7; refine (like3_any _ R2 C2 R2 C2 E2 E2 s3 s4 N2 N2 d3 d4 f2 f2 HM_s_7.out.sl HM_t_7.out.sl true (hid_of (like_self R2 C2 E2 N2 f2))).mono ?_; rintro e w8 ⟨rfl, hb8⟩; have HB_8 : Hid (Below w.heap.size w w8) := two_below HB_7.out hb8; have HV_m0_8 : Hid (Vr w8 w.heap.size (.int .i64 r0) (.int .i64 c0) (.slice a0 len0 cap0)) := HV_m0_7.out.later hb8; have HV_p_8 : Hid (Vr w8 w1.heap.size (.int .i64 R) (.int .i64 C) (.slice s1 N d1)) := HV_p_7.out.later hb8; have HV_q_8 : Hid (Vr w8 w2.heap.size (.int .i64 R) (.int .i64 C) (.slice s2 N d2)) := HV_q_7.out.later hb8; have HV_s_8 : Hid (Vr w8 w3.heap.size (.int .i64 R2) (.int .i64 C2) (.slice s3 N2 d3)) := HV_s_7.out.later hb8; have HV_t_8 : Hid (Vr w8 w4.heap.size (.int .i64 R2) (.int .i64 C2) (.slice s4 N2 d4)) := HV_t_7.out.later hb8; have HM_m0_8 : Hid (Mt w8 a0 len0 cap0 F0) := HM_m0_7.out.later hb8; have HM_p_8 : Hid (Mt w8 s1 N d1 f) := HM_p_7.out.later hb8; have HM_q_8 : Hid (Mt w8 s2 N d2 f) := HM_q_7.out.later hb8; have HM_s_8 : Hid (Mt w8 s3 N2 d3 f2) := HM_s_7.out.later hb8; have HM_t_8 : Hid (Mt w8 s4 N2 d4 f2) := HM_t_7.out.later hb8; have HK_8 : Hid (w8.cell? ⟨w.heap.size, 0, none⟩ = some (.int .i64 r0) ∧ w8.cell? ⟨w.heap.size, 1, none⟩ = some (.int .i64 c0) ∧ w8.cell? ⟨w.heap.size, 2, none⟩ = some (.slice a0 len0 cap0) ∧ w8.cell? ⟨w1.heap.size, 0, none⟩ = some (.int .i64 R) ∧ w8.cell? ⟨w1.heap.size, 1, none⟩ = some (.int .i64 C) ∧ w8.cell? ⟨w1.heap.size, 2, none⟩ = some (.slice s1 N d1) ∧ w8.cell? ⟨w2.heap.size, 0, none⟩ = some (.int .i64 R) ∧ w8.cell? ⟨w2.heap.size, 1, none⟩ = some (.int .i64 C) ∧ w8.cell? ⟨w2.heap.size, 2, none⟩ = some (.slice s2 N d2) ∧ w8.cell? ⟨w3.heap.size, 0, none⟩ = some (.int .i64 R2) ∧ w8.cell? ⟨w3.heap.size, 1, none⟩ = some (.int .i64 C2) ∧ w8.cell? ⟨w3.heap.size, 2, none⟩ = some (.slice s3 N2 d3) ∧ w8.cell? ⟨w4.heap.size, 0, none⟩ = some (.int .i64 R2) ∧ w8.cell? ⟨w4.heap.size, 1, none⟩ = some (.int .i64 C2) ∧ w8.cell? ⟨w4.heap.size, 2, none⟩ = some (.slice s4 N2 d4)) := ⟨HV_m0_8.out.c0, HV_m0_8.out.c1, HV_m0_8.out.c2, HV_p_8.out.c0, HV_p_8.out.c1, HV_p_8.out.c2, HV_q_8.out.c0, HV_q_8.out.c1, HV_q_8.out.c2, HV_s_8.out.c0, HV_s_8.out.c1, HV_s_8.out.c2, HV_t_8.out.c0, HV_t_8.out.c1, HV_t_8.out.c2⟩; clear HV_m0_7 HV_p_7 HV_q_7 HV_s_7 HV_t_7 HM_m0_7 HM_p_7 HM_q_7 HM_s_7 HM_t_7 hb8)
      | (go_at_call 15; have _x := HB_6; refine (like3_any _ R C R C E E s1 s2 N N d1 d2 f f HM_p_6.out.sl HM_q_6.out.sl true (hid_of (like_self R C E N f))).mono ?_; rintro e w7 ⟨rfl, hb7⟩; have HB_7 : Hid (Below w.heap.size w w7) := two_below HB_6.out hb7; have HV_m0_7 : Hid (Vr w7 w.heap.size (.int .i64 r0) (.int .i64 c0) (.slice a0 len0 cap0)) := HV_m0_6.out.later hb7; have HV_p_7 : Hid (Vr w7 w1.heap.size (.int .i64 R) (.int .i64 C) (.slice s1 N d1)) := HV_p_6.out.later hb7; have HV_q_7 : Hid (Vr w7 w2.heap.size (.int .i64 R) (.int .i64 C) (.slice s2 N d2)) := HV_q_6.out.later hb7; have HV_s_7 : Hid (Vr w7 w3.heap.size (.int .i64 R2) (.int .i64 C2) (.slice s3 N2 d3)) := HV_s_6.out.later hb7; have HV_t_7 : Hid (Vr w7 w4.heap.size (.int .i64 R2) (.int .i64 C2) (.slice s4 N2 d4)) := HV_t_6.out.later hb7; have HM_m0_7 : Hid (Mt w7 a0 len0 cap0 F0) := HM_m0_6.out.later hb7; have HM_p_7 : Hid (Mt w7 s1 N d1 f) := HM_p_6.out.later hb7; have HM_q_7 : Hid (Mt w7 s2 N d2 f) := HM_q_6.out.later hb7; have HM_s_7 : Hid (Mt w7 s3 N2 d3 f2) := HM_s_6.out.later hb7; have HM_t_7 : Hid (Mt w7 s4 N2 d4 f2) := HM_t_6.out.later hb7; have HK_7 : Hid (w7.cell? ⟨w.heap.size, 0, none⟩ = some (.int .i64 r0) ∧ w7.cell? ⟨w.heap.size, 1, none⟩ = some (.int .i64 c0) ∧ w7.cell? ⟨w.heap.size, 2, none⟩ = some (.slice a0 len0 cap0) ∧ w7.cell? ⟨w1.heap.size, 0, none⟩ = some (.int .i64 R) ∧ w7.cell? ⟨w1.heap.size, 1, none⟩ = some (.int .i64 C) ∧ w7.cell? ⟨w1.heap.size, 2, none⟩ = some (.slice s1 N d1) ∧ w7.cell? ⟨w2.heap.size, 0, none⟩ = some (.int .i64 R) ∧ w7.cell? ⟨w2.heap.size, 1, none⟩ = some (.int .i64 C) ∧ w7.cell? ⟨w2.heap.size, 2, none⟩ = some (.slice s2 N d2) ∧ w7.cell? ⟨w3.heap.size, 0, none⟩ = some (.int .i64 R2) ∧ w7.cell? ⟨w3.heap.size, 1, none⟩ = some (.int .i64 C2) ∧ w7.cell? ⟨w3.heap.size, 2, none⟩ = some (.slice s3 N2 d3) ∧ w7.cell? ⟨w4.heap.size, 0, none⟩ = some (.int .i64 R2) ∧ w7.cell? ⟨w4.heap.size, 1, none⟩ = some (.int .i64 C2) ∧ w7.cell? ⟨w4.heap.size, 2, none⟩ = some (.slice s4 N2 d4)) := ⟨HV_m0_7.out.c0, HV_m0_7.out.c1, HV_m0_7.out.c2, HV_p_7.out.c0, HV_p_7.out.c1, HV_p_7.out.c2, HV_q_7.out.c0, HV_q_7.out.c1, HV_q_7.out.c2, HV_s_7.out.c0, HV_s_7.out.c1, HV_s_7.out.c2, HV_t_7.out.c0, HV_t_7.out.c1, HV_t_7.out.c2⟩; clear HV_m0_6 HV_p_6 HV_q_6 HV_s_6 HV_t_6 HM_m0_6 HM_p_6 HM_q_6 HM_s_6 HM_t_6 hb7)
      | (go_at_call 14; have _x := HB_5; refine ((HR.out _ _ _).2).mono ?_; rintro e w6 ⟨rfl, hb6⟩; have HB_6 : Hid (Below w.heap.size w w6) := two_below HB_5.out hb6; have HV_m0_6 : Hid (Vr w6 w.heap.size (.int .i64 r0) (.int .i64 c0) (.slice a0 len0 cap0)) := HV_m0_5.out.later hb6; have HV_p_6 : Hid (Vr w6 w1.heap.size (.int .i64 R) (.int .i64 C) (.slice s1 N d1)) := HV_p_5.out.later hb6; have HV_q_6 : Hid (Vr w6 w2.heap.size (.int .i64 R) (.int .i64 C) (.slice s2 N d2)) := HV_q_5.out.later hb6; have HV_s_6 : Hid (Vr w6 w3.heap.size (.int .i64 R2) (.int .i64 C2) (.slice s3 N2 d3)) := HV_s_5.out.later hb6; have HV_t_6 : Hid (Vr w6 w4.heap.size (.int .i64 R2) (.int .i64 C2) (.slice s4 N2 d4)) := HV_t_5.out.later hb6; have HM_m0_6 : Hid (Mt w6 a0 len0 cap0 F0) := HM_m0_5.out.later hb6; have HM_p_6 : Hid (Mt w6 s1 N d1 f) := HM_p_5.out.later hb6; have HM_q_6 : Hid (Mt w6 s2 N d2 f) := HM_q_5.out.later hb6; have HM_s_6 : Hid (Mt w6 s3 N2 d3 f2) := HM_s_5.out.later hb6; have HM_t_6 : Hid (Mt w6 s4 N2 d4 f2) := HM_t_5.out.later hb6; have HK_6 : Hid (w6.cell? ⟨w.heap.size, 0, none⟩ = some (.int .i64 r0) ∧ w6.cell? ⟨w.heap.size, 1, none⟩ = some (.int .i64 c0) ∧ w6.cell? ⟨w.heap.size, 2, none⟩ = some (.slice a0 len0 cap0) ∧ w6.cell? ⟨w1.heap.size, 0, none⟩ = some (.int .i64 R) ∧ w6.cell? ⟨w1.heap.size, 1, none⟩ = some (.int .i64 C) ∧ w6.cell? ⟨w1.heap.size, 2, none⟩ = some (.slice s1 N d1) ∧ w6.cell? ⟨w2.heap.size, 0, none⟩ = some (.int .i64 R) ∧ w6.cell? ⟨w2.heap.size, 1, none⟩ = some (.int .i64 C) ∧ w6.cell? ⟨w2.heap.size, 2, none⟩ = some (.slice s2 N d2) ∧ w6.cell? ⟨w3.heap.size, 0, none⟩ = some (.int .i64 R2) ∧ w6.cell? ⟨w3.heap.size, 1, none⟩ = some (.int .i64 C2) ∧ w6.cell? ⟨w3.heap.size, 2, none⟩ = some (.slice s3 N2 d3) ∧ w6.cell? ⟨w4.heap.size, 0, none⟩ = some (.int .i64 R2) ∧ w6.cell? ⟨w4.heap.size, 1, none⟩ = some (.int .i64 C2) ∧ w6.cell? ⟨w4.heap.size, 2, none⟩ = some (.slice s4 N2 d4)) := ⟨HV_m0_6.out.c0, HV_m0_6.out.c1, HV_m0_6.out.c2, HV_p_6.out.c0, HV_p_6.out.c1, HV_p_6.out.c2, HV_q_6.out.c0, HV_q_6.out.c1, HV_q_6.out.c2, HV_s_6.out.c0, HV_s_6.out.c1, HV_s_6.out.c2, HV_t_6.out.c0, HV_t_6.out.c1, HV_t_6.out.c2⟩; clear HV_m0_5 HV_p_5 HV_q_5 HV_s_5 HV_t_5 HM_m0_5 HM_p_5 HM_q_5 HM_s_5 HM_t_5 hb6)
      | (go_at_call 13; have _x := HB_4; refine ((HR.out _ _ _).1).mono ?_; rintro e w5 ⟨rfl, hb5⟩; have hb5 := two_below (Below.refl _ _).drew hb5; have HB_5 : Hid (Below w.heap.size w w5) := two_below HB_4.out hb5; have HV_m0_5 : Hid (Vr w5 w.heap.size (.int .i64 r0) (.int .i64 c0) (.slice a0 len0 cap0)) := HV_m0_4.out.later hb5; have HV_p_5 : Hid (Vr w5 w1.heap.size (.int .i64 R) (.int .i64 C) (.slice s1 N d1)) := HV_p_4.out.later hb5; have HV_q_5 : Hid (Vr w5 w2.heap.size (.int .i64 R) (.int .i64 C) (.slice s2 N d2)) := HV_q_4.out.later hb5; have HV_s_5 : Hid (Vr w5 w3.heap.size (.int .i64 R2) (.int .i64 C2) (.slice s3 N2 d3)) := HV_s_4.out.later hb5; have HV_t_5 : Hid (Vr w5 w4.heap.size (.int .i64 R2) (.int .i64 C2) (.slice s4 N2 d4)) := HV_t_4.out.later hb5; have HM_m0_5 : Hid (Mt w5 a0 len0 cap0 F0) := HM_m0_4.out.later hb5; have HM_p_5 : Hid (Mt w5 s1 N d1 f) := HM_p_4.out.later hb5; have HM_q_5 : Hid (Mt w5 s2 N d2 f) := HM_q_4.out.later hb5; have HM_s_5 : Hid (Mt w5 s3 N2 d3 f2) := HM_s_4.out.later hb5; have HM_t_5 : Hid (Mt w5 s4 N2 d4 f2) := HM_t_4.out.later hb5; have HK_5 : Hid (w5.cell? ⟨w.heap.size, 0, none⟩ = some (.int .i64 r0) ∧ w5.cell? ⟨w.heap.size, 1, none⟩ = some (.int .i64 c0) ∧ w5.cell? ⟨w.heap.size, 2, none⟩ = some (.slice a0 len0 cap0) ∧ w5.cell? ⟨w1.heap.size, 0, none⟩ = some (.int .i64 R) ∧ w5.cell? ⟨w1.heap.size, 1, none⟩ = some (.int .i64 C) ∧ w5.cell? ⟨w1.heap.size, 2, none⟩ = some (.slice s1 N d1) ∧ w5.cell? ⟨w2.heap.size, 0, none⟩ = some (.int .i64 R) ∧ w5.cell? ⟨w2.heap.size, 1, none⟩ = some (.int .i64 C) ∧ w5.cell? ⟨w2.heap.size, 2, none⟩ = some (.slice s2 N d2) ∧ w5.cell? ⟨w3.heap.size, 0, none⟩ = some (.int .i64 R2) ∧ w5.cell? ⟨w3.heap.size, 1, none⟩ = some (.int .i64 C2) ∧ w5.cell? ⟨w3.heap.size, 2, none⟩ = some (.slice s3 N2 d3) ∧ w5.cell? ⟨w4.heap.size, 0, none⟩ = some (.int .i64 R2) ∧ w5.cell? ⟨w4.heap.size, 1, none⟩ = some (.int .i64 C2) ∧ w5.cell? ⟨w4.heap.size, 2, none⟩ = some (.slice s4 N2 d4)) := ⟨HV_m0_5.out.c0, HV_m0_5.out.c1, HV_m0_5.out.c2, HV_p_5.out.c0, HV_p_5.out.c1, HV_p_5.out.c2, HV_q_5.out.c0, HV_q_5.out.c1, HV_q_5.out.c2, HV_s_5.out.c0, HV_s_5.out.c1, HV_s_5.out.c2, HV_t_5.out.c0, HV_t_5.out.c1, HV_t_5.out.c2⟩; clear HV_m0_4 HV_p_4 HV_q_4 HV_s_4 HV_t_4 HM_m0_4 HM_p_4 HM_q_4 HM_s_4 HM_t_4 hb5))
  go_wp2
  go_ret
  exact ⟨rfl, HB_8.out⟩
set_option maxRecDepth 100000 in
set_option maxHeartbeats 2000000 in
theorem lifted (os : Os) (started : os.Started) (H : Type) (enc : TypeId × Value → H) :
    ReturnsInHanded {} Try.checked os 3 .any (Rows.matrixMadeSpec.pre6 enc Try.prog Try.f3 Rows.matrixMadeRow.domain false) (Rows.matrixMadeSpec.post enc Try.prog Try.f3 false true false false) := by
  refine returnsInHanded_of_change_sized (C := Try.checked) own started (by kernel_rfl) Try.func3
    (ChangeSpec.witness6 (enc := enc) (C := Try.checked) false ⟨#[], #[.agg #[.int .i64 0, .int .i64 0, .slice none 0 0], .int .i64 0, .int .i64 0], []⟩ 8 (by kernel_rfl) (by kernel_rfl) (by kernel_rfl) (by kernel_rfl)) ?_
  intro W base args ds gs before hval0 hW hcnd hsz0 _
  have hsz : (DataW.weightsEach Try.prog (Try.f3.params.toList ++ Rows.matrixMadeSpec.plain.varTypes Try.prog) (ds ++ gs)).all (· ≤ reachBytes) = true := hsz0
  clear hsz0
  have hval : ∀ (j : Nat) t v, Try.f3.params[j]? = some t → args[j]? = some v → Value.okWide Try.prog W .any base t v := hval0
  have hW' := hW
  obtain ⟨p, q, hA0, hV, rfl, hfz, hnd⟩ := hW
  have hA : DataW.TrodAll enc Try.prog W 0 (fun _ => true) true Try.f3.params.toList args.toList ds p := hA0
  rw [Try.params3] at hA hval hsz
  obtain ⟨va0, vs0, d0, ds0, p0, q0, hargs, rfl, rfl, h0, tr0⟩ := trodAll_cons hA
  obtain ⟨va1, vs1, d1, ds1, p1, q1, rfl, rfl, rfl, h1, tr1⟩ := trodAll_cons tr0
  obtain ⟨va2, vs2, d2, ds2, p2, q2, rfl, rfl, rfl, h2, tr2⟩ := trodAll_cons tr1
  obtain ⟨rfl, rfl, rfl⟩ := trodAll_nil tr2
  obtain rfl : args = #[va0, va1, va2] := by cases args; simp_all
  obtain ⟨rfl, rfl⟩ := trodVars_none hV
  have k0 := h0
  have lt0 : ∀ x ∈ p0, x.block < W.heap.size := by obtain ⟨m, hm⟩ := k0; exact DataW.trod_lt m _ _ _ hm
  obtain ⟨f0, g0, s0, y0, x0, e0, m0, rfl, rfl, rfl, hf0, hg0, hs0⟩ := open_agg3 Try.underlying24 (by kernel_rfl) cellsM (hval 0 24 va0 rfl rfl) h0
  obtain ⟨r0, er0, rfl, u0⟩ := DataW.trod_int Try.underlying3 hf0
  obtain ⟨c0, ec0, rfl, v0⟩ := DataW.trod_int Try.underlying3 hg0
  simp only [List.cons.injEq, and_true] at er0 ec0
  subst er0 ec0
  obtain ⟨a0, len0, cap0, rfl⟩ : ∃ a l c, s0 = .slice a l c := by
    rcases open_ints Try.underlying22 Try.underlying5 (by kernel_rfl) hs0 with ⟨hcs, _⟩ | ⟨x, l, c, zs, hcs, _⟩
    · simp only [List.cons.injEq, and_true] at hcs; exact ⟨_, _, _, hcs⟩
    · simp only [List.cons.injEq, and_true] at hcs; exact ⟨_, _, _, hcs⟩
  obtain ⟨z0, w0⟩ : ∃ zs, IsRow .u8 W a0 len0 cap0 zs := by
    obtain ⟨fuel, hf⟩ := (⟨m0, hs0⟩ : ∃ fuel, DataW.trod enc Try.prog W 0 (fun _ => true) true fuel 22 [.slice a0 len0 cap0] = some e0)
    rcases open_ints Try.underlying22 Try.underlying5 (by kernel_rfl) hf with ⟨hcs, _⟩ | ⟨x, l, c, zs, hcs, _, hl, hm, hz, hxx, hcell, hwz⟩
    · simp at hcs
      obtain ⟨rfl, rfl, rfl⟩ := hcs
      exact ⟨[], .inl ⟨rfl, rfl, rfl, rfl⟩⟩
    · simp at hcs
      obtain ⟨rfl, rfl, rfl⟩ := hcs
      have hd := congrArg Prod.fst hxx
      have hs := sized_slice (sized_in hsz (j := 0) (t := 24) rfl rfl) (j := 2) (t := 22) (e := 5) rfl (congrArg some hd) Try.underlying22
      rw [show Try.prog.bytesOf 5 = 1 from by kernel_rfl] at hs
      have hzl : zs.length = cap0 := by simpa using hz
      simp only [lits, List.length_map, List.length_take, List.length_drop, reachBytes] at hs
      exact ⟨zs, .inr ⟨_, rfl, hl, by omega, by simpa using hz, hcell, hwz⟩⟩
  have k1 := h1
  have lt1 : ∀ x ∈ p1, x.block < W.heap.size := by obtain ⟨m, hm⟩ := k1; exact DataW.trod_lt m _ _ _ hm
  obtain ⟨n1, rfl, w1⟩ : ∃ n, va1 = .int .i64 n ∧ (Lit.int .i64 n).wf = true := by
    obtain ⟨n, rfl, _, _, hw⟩ := open_int Try.underlying3 (hval 1 3 va1 rfl rfl) h1
    exact ⟨n, rfl, hw⟩
  have k2 := h2
  have lt2 : ∀ x ∈ p2, x.block < W.heap.size := by obtain ⟨m, hm⟩ := k2; exact DataW.trod_lt m _ _ _ hm
  obtain ⟨n2, rfl, w2⟩ : ∃ n, va2 = .int .i64 n ∧ (Lit.int .i64 n).wf = true := by
    obtain ⟨n, rfl, _, _, hw⟩ := open_int Try.underlying3 (hval 2 3 va2 rfl rfl) h2
    exact ⟨n, rfl, hw⟩
  clear hA0 hval0
  refine (walk r0 c0 a0 len0 cap0 z0 n1 n2 W u0 v0 w0 w1 w2).mono fun e W' ⟨he, bel⟩ => ?_
  subst he
  exact ⟨_, rfl, _, _, _, [], _, [], hW', trodAll_mk1 (shut_bool Try.underlying4 _), (trodAll_cons_mk (Below.trod laidOut (by kernel_rfl) (of_decide_eq_true (by kernel_rfl)) k0 bel lt0) (trodAll_cons_mk (Below.trod laidOut (by kernel_rfl) (of_decide_eq_true (by kernel_rfl)) k1 bel lt1) (trodAll_cons_mk (Below.trod laidOut (by kernel_rfl) (of_decide_eq_true (by kernel_rfl)) k2 bel lt2) trodAll_mk0))), rfl, bel.frame _, fun h => by cases h⟩
theorem over : Rows.matrixMadeRow.holds Try.pinned (OpenSpec.ofChange Rows.matrixMadeSpec) :=
  OpenClaim.holds_of_wide 3 Try.f3 rfl rfl rfl rfl rfl rfl rfl ⟨rfl, rfl, rfl, rfl, rfl⟩ rfl rfl rfl rfl rfl (by kernel_rfl) Try.func3 (by kernel_rfl)
    (of_decide_eq_true (by kernel_rfl)) (by unfold Func.isWrapper; first | (rw [if_pos (by decide +kernel)]; kernel_rfl) | (rw [if_neg (by decide +kernel)]; exact ⟨rfl, rfl⟩))
    (fun os started H enc _ => lifted os started H enc)
theorem proved : Rows.MatrixMadeSaid := over
#print axioms proved
end Go.Proofs.Ytaoehildaenbnaa.matrixMade
