/-
  Proved: for every matrix m the program's Systematic, Check and MDS answer the document's, or its error (P5.2, P5.4); no condition.
-/
import Derived.Test.YtblfldjlehjnbaaGz
import Derived.WalkKit
import Derived.SizedLaws
import Derived.ProofKit
import Derived.OpenShut
import Derived.ShutString
import Derived.ChangeOld
import Derived.Below
import Derived.Lib.SmallJoins
import Derived.Deep.Matrix
namespace Go.Proofs.Ytblfldjlehjnbaa.buildTurned
open Go.ChangeShapes Go.WideShapes Go.ChangeAt Go.RowKit Go.Joins
set_option linter.unusedVariables false
theorem own : ownKnob Try.prog.godebug = none := by kernel_rfl
theorem laidOut : laidOutB Try.prog = true := by kernel_rfl
/-- A slice of integers that came in. -/
def IsRow (k : IntKind) (w : World) (a : Option Addr) (len cap : Nat) (zs : List Int) : Prop :=
  (a = none ∧ len = 0 ∧ cap = 0 ∧ zs = []) ∨
  ∃ x, a = some x ∧ len ≤ cap ∧ cap ≤ 140737488351232 ∧ zs.length = cap ∧ (∀ i, i < zs.length → w.cell? (x.add i) = some (.int k (zs.getD i 0))) ∧ ∀ n ∈ zs, (Lit.int k n).wf = true
/-- A slice of slices of bytes that came in. -/
def IsRows (w : World) (a : Option Addr) (len cap : Nat) : Prop :=
  (a = none ∧ len = 0 ∧ cap = 0) ∨
  ∃ x, a = some x ∧ len ≤ cap ∧ cap ≤ 140737488351232 ∧ ∀ r, r < cap → ∃ b l c zs, w.cell? (x.add r) = some (.slice b l c) ∧ IsRow .u8 w b l c zs
theorem sized_in {H : Type} {P : Program} {ts : List TypeId} {ds : List (DataW H)} (h : (DataW.weightsEach P ts ds).all (· ≤ reachBytes) = true) {j : Nat} {t : TypeId} {d : DataW H} (ht : ts[j]? = some t) (hd : ds[j]? = some d) : (d.weights P t).all (· ≤ reachBytes) = true :=
  List.all_eq_true.2 fun n hn => List.all_eq_true.1 h n (DataW.weights_mem_each ht hd n hn)
theorem sized_all {H : Type} {P : Program} {e : TypeId} : ∀ {ds : List (DataW H)}, (DataW.weightsAll P e ds).all (· ≤ reachBytes) = true → ∀ d ∈ ds, (d.weights P e).all (· ≤ reachBytes) = true
  | [], _, d, hd => by simp at hd
  | d0 :: r, h, d, hd => by
    simp only [DataW.weightsAll, List.all_append, Bool.and_eq_true] at h
    rcases List.mem_cons.1 hd with rfl | hd
    · exact h.1
    · exact sized_all h.2 d hd
theorem cellsM : Try.prog.cellsOf 24 = 3 := by kernel_rfl

set_option maxRecDepth 20000 in
set_option maxHeartbeats 8000000 in
theorem walk (r0 c0 : Int) (a0 : Option Addr) (len0 cap0 : Nat) (z0 : List Int) (w : World) (u0 : (Lit.int .i64 r0).wf = true) (v0 : (Lit.int .i64 c0).wf = true) (w0 : IsRow .u8 w a0 len0 cap0 z0) :
    Calls Try.prog 5 #[.agg #[.int .i64 r0, .int .i64 c0, .slice a0 len0 cap0]] w fun e w' => e = .returned (.bool true) ∧ Below w.heap.size w w' := by
  obtain ⟨F, hM, hn0⟩ := mt_of_row w a0 len0 cap0 z0 w0
  obtain ⟨R1, C1, N1, f1, E1, hp1⟩ := sys_pair r0 c0 len0 F hM.sl.1
  have HP1 := hid_of hp1
  obtain ⟨R2, C2, N2, f2, E2, hp2⟩ := chk_pair r0 c0 len0 F hM.sl.1
  have HP2 := hid_of hp2
  obtain ⟨y, E3, hp3⟩ := mds_pair r0 c0 len0 F
  have HP3 := hid_of hp3
  have HM : Hid (Mt w a0 len0 cap0 F) := hM
  clear w0 u0 v0 hn0 hM hp1 hp2 hp3
  obtain ⟨wb, HW⟩ : ∃ wb, Hid (wb = w.alloc (.cells #[.int .i64 r0, .int .i64 c0, .slice a0 len0 cap0] 24)) := ⟨_, rfl⟩
  have HV_m_0 : Hid (Vr wb w.heap.size (.int .i64 r0) (.int .i64 c0) (.slice a0 len0 cap0)) := by show Vr _ _ _ _ _; rw [HW.out]; exact Vr.new _ _ _ _
  have HB_0 : Hid (Below w.heap.size w wb) := by rw [HW.out]; exact alloc_low _ _
  have HF_m_0 : Hid (Mt wb a0 len0 cap0 F) := HM.out.later HB_0.out
  clear HM
  have l_m_0_0 := HV_m_0.out.c0
  have l_m_1_0 := HV_m_0.out.c1
  have l_m_2_0 := HV_m_0.out.c2
  go_enter Try.func5, Try.ntmps5
  go_wp2_with (first
    | (go_at_call 15; have _x := HB_7; refine (like5_any _ R2 C2 R2 C2 E2 E2 s3 s4 N2 N2 d3 d4 f2 f2 HF_c_7.out.sl HF_d_7.out.sl true (hid_of (like_self R2 C2 E2 N2 f2))).mono ?_; rintro e w8 ⟨rfl, hb⟩; have HB_8 : Hid (Below w.heap.size w w8) := two_below HB_7.out hb; have HV_m_8 : Hid (Vr w8 w.heap.size (.int .i64 r0) (.int .i64 c0) (.slice a0 len0 cap0)) := HV_m_7.out.later hb; have HV_a_8 : Hid (Vr w8 w1.heap.size (.int .i64 R1) (.int .i64 C1) (.slice s1 N1 d1)) := HV_a_7.out.later hb; have HV_b_8 : Hid (Vr w8 w2.heap.size (.int .i64 R1) (.int .i64 C1) (.slice s2 N1 d2)) := HV_b_7.out.later hb; have HV_c_8 : Hid (Vr w8 w3.heap.size (.int .i64 R2) (.int .i64 C2) (.slice s3 N2 d3)) := HV_c_7.out.later hb; have HV_d_8 : Hid (Vr w8 w4.heap.size (.int .i64 R2) (.int .i64 C2) (.slice s4 N2 d4)) := HV_d_7.out.later hb; have HF_m_8 : Hid (Mt w8 a0 len0 cap0 F) := HF_m_7.out.later hb; have HF_a_8 : Hid (Mt w8 s1 N1 d1 f1) := HF_a_7.out.later hb; have HF_b_8 : Hid (Mt w8 s2 N1 d2 f1) := HF_b_7.out.later hb; have HF_c_8 : Hid (Mt w8 s3 N2 d3 f2) := HF_c_7.out.later hb; have HF_d_8 : Hid (Mt w8 s4 N2 d4 f2) := HF_d_7.out.later hb; clear hb HV_m_7 HV_a_7 HV_b_7 HV_c_7 HV_d_7 HF_m_7 HF_a_7 HF_b_7 HF_c_7 HF_d_7)
    | (go_at_call 15; have _x := HB_6; refine (like5_any _ R1 C1 R1 C1 E1 E1 s1 s2 N1 N1 d1 d2 f1 f1 HF_a_6.out.sl HF_b_6.out.sl true (hid_of (like_self R1 C1 E1 N1 f1))).mono ?_; rintro e w7 ⟨rfl, hb⟩; have HB_7 : Hid (Below w.heap.size w w7) := two_below HB_6.out hb; have HV_m_7 : Hid (Vr w7 w.heap.size (.int .i64 r0) (.int .i64 c0) (.slice a0 len0 cap0)) := HV_m_6.out.later hb; have HV_a_7 : Hid (Vr w7 w1.heap.size (.int .i64 R1) (.int .i64 C1) (.slice s1 N1 d1)) := HV_a_6.out.later hb; have HV_b_7 : Hid (Vr w7 w2.heap.size (.int .i64 R1) (.int .i64 C1) (.slice s2 N1 d2)) := HV_b_6.out.later hb; have HV_c_7 : Hid (Vr w7 w3.heap.size (.int .i64 R2) (.int .i64 C2) (.slice s3 N2 d3)) := HV_c_6.out.later hb; have HV_d_7 : Hid (Vr w7 w4.heap.size (.int .i64 R2) (.int .i64 C2) (.slice s4 N2 d4)) := HV_d_6.out.later hb; have HF_m_7 : Hid (Mt w7 a0 len0 cap0 F) := HF_m_6.out.later hb; have HF_a_7 : Hid (Mt w7 s1 N1 d1 f1) := HF_a_6.out.later hb; have HF_b_7 : Hid (Mt w7 s2 N1 d2 f1) := HF_b_6.out.later hb; have HF_c_7 : Hid (Mt w7 s3 N2 d3 f2) := HF_c_6.out.later hb; have HF_d_7 : Hid (Mt w7 s4 N2 d4 f2) := HF_d_6.out.later hb; have l_c_0_7 := HV_c_7.out.c0; have l_c_1_7 := HV_c_7.out.c1; have l_c_2_7 := HV_c_7.out.c2; have l_d_0_7 := HV_d_7.out.c0; have l_d_1_7 := HV_d_7.out.c1; have l_d_2_7 := HV_d_7.out.c2; clear hb HV_m_6 HV_a_6 HV_b_6 HV_c_6 HV_d_6 HF_m_6 HF_a_6 HF_b_6 HF_c_6 HF_d_6)
    | (go_at_call 23; have _x := HB_5; refine ((HP3.out _ cap0 a0 HF_m_5.out).2).mono ?_; rintro e w6 ⟨rfl, hb⟩; have HB_6 : Hid (Below w.heap.size w w6) := two_below HB_5.out hb; have HV_m_6 : Hid (Vr w6 w.heap.size (.int .i64 r0) (.int .i64 c0) (.slice a0 len0 cap0)) := HV_m_5.out.later hb; have HV_a_6 : Hid (Vr w6 w1.heap.size (.int .i64 R1) (.int .i64 C1) (.slice s1 N1 d1)) := HV_a_5.out.later hb; have HV_b_6 : Hid (Vr w6 w2.heap.size (.int .i64 R1) (.int .i64 C1) (.slice s2 N1 d2)) := HV_b_5.out.later hb; have HV_c_6 : Hid (Vr w6 w3.heap.size (.int .i64 R2) (.int .i64 C2) (.slice s3 N2 d3)) := HV_c_5.out.later hb; have HV_d_6 : Hid (Vr w6 w4.heap.size (.int .i64 R2) (.int .i64 C2) (.slice s4 N2 d4)) := HV_d_5.out.later hb; have HF_m_6 : Hid (Mt w6 a0 len0 cap0 F) := HF_m_5.out.later hb; have HF_a_6 : Hid (Mt w6 s1 N1 d1 f1) := HF_a_5.out.later hb; have HF_b_6 : Hid (Mt w6 s2 N1 d2 f1) := HF_b_5.out.later hb; have HF_c_6 : Hid (Mt w6 s3 N2 d3 f2) := HF_c_5.out.later hb; have HF_d_6 : Hid (Mt w6 s4 N2 d4 f2) := HF_d_5.out.later hb; have l_a_0_6 := HV_a_6.out.c0; have l_a_1_6 := HV_a_6.out.c1; have l_a_2_6 := HV_a_6.out.c2; have l_b_0_6 := HV_b_6.out.c0; have l_b_1_6 := HV_b_6.out.c1; have l_b_2_6 := HV_b_6.out.c2; clear hb HV_m_5 HV_a_5 HV_b_5 HV_c_5 HV_d_5 HF_m_5 HF_a_5 HF_b_5 HF_c_5 HF_d_5)
    | (go_at_call 22; have _x := HB_4; refine ((HP3.out _ cap0 a0 HF_m_4.out).1).mono ?_; rintro e w5 ⟨rfl, hb⟩; have HB_5 : Hid (Below w.heap.size w w5) := two_below HB_4.out hb; have HV_m_5 : Hid (Vr w5 w.heap.size (.int .i64 r0) (.int .i64 c0) (.slice a0 len0 cap0)) := HV_m_4.out.later hb; have HV_a_5 : Hid (Vr w5 w1.heap.size (.int .i64 R1) (.int .i64 C1) (.slice s1 N1 d1)) := HV_a_4.out.later hb; have HV_b_5 : Hid (Vr w5 w2.heap.size (.int .i64 R1) (.int .i64 C1) (.slice s2 N1 d2)) := HV_b_4.out.later hb; have HV_c_5 : Hid (Vr w5 w3.heap.size (.int .i64 R2) (.int .i64 C2) (.slice s3 N2 d3)) := HV_c_4.out.later hb; have HV_d_5 : Hid (Vr w5 w4.heap.size (.int .i64 R2) (.int .i64 C2) (.slice s4 N2 d4)) := HV_d_4.out.later hb; have HF_m_5 : Hid (Mt w5 a0 len0 cap0 F) := HF_m_4.out.later hb; have HF_a_5 : Hid (Mt w5 s1 N1 d1 f1) := HF_a_4.out.later hb; have HF_b_5 : Hid (Mt w5 s2 N1 d2 f1) := HF_b_4.out.later hb; have HF_c_5 : Hid (Mt w5 s3 N2 d3 f2) := HF_c_4.out.later hb; have HF_d_5 : Hid (Mt w5 s4 N2 d4 f2) := HF_d_4.out.later hb; have l_m_0_5 := HV_m_5.out.c0; have l_m_1_5 := HV_m_5.out.c1; have l_m_2_5 := HV_m_5.out.c2; clear hb HV_m_4 HV_a_4 HV_b_4 HV_c_4 HV_d_4 HF_m_4 HF_a_4 HF_b_4 HF_c_4 HF_d_4)
    | (go_at_call 21; have _x := HB_3; refine ((HP2.out _ cap0 a0 HF_m_3.out).2).mono ?_; rintro e w4 ⟨s4, d4, rfl, hm, hb⟩; have HB_4 : Hid (Below w.heap.size w (w4.alloc (.cells #[.int .i64 R2, .int .i64 C2, .slice s4 N2 d4] 24))) := two_below (two_below HB_3.out hb) (alloc_low _ _); have HV_m_4 : Hid (Vr (w4.alloc (.cells #[.int .i64 R2, .int .i64 C2, .slice s4 N2 d4] 24)) w.heap.size (.int .i64 r0) (.int .i64 c0) (.slice a0 len0 cap0)) := (HV_m_3.out.later hb).later (alloc_low _ _); have HV_a_4 : Hid (Vr (w4.alloc (.cells #[.int .i64 R2, .int .i64 C2, .slice s4 N2 d4] 24)) w1.heap.size (.int .i64 R1) (.int .i64 C1) (.slice s1 N1 d1)) := (HV_a_3.out.later hb).later (alloc_low _ _); have HV_b_4 : Hid (Vr (w4.alloc (.cells #[.int .i64 R2, .int .i64 C2, .slice s4 N2 d4] 24)) w2.heap.size (.int .i64 R1) (.int .i64 C1) (.slice s2 N1 d2)) := (HV_b_3.out.later hb).later (alloc_low _ _); have HV_c_4 : Hid (Vr (w4.alloc (.cells #[.int .i64 R2, .int .i64 C2, .slice s4 N2 d4] 24)) w3.heap.size (.int .i64 R2) (.int .i64 C2) (.slice s3 N2 d3)) := (HV_c_3.out.later hb).later (alloc_low _ _); have HF_m_4 : Hid (Mt (w4.alloc (.cells #[.int .i64 R2, .int .i64 C2, .slice s4 N2 d4] 24)) a0 len0 cap0 F) := (HF_m_3.out.later hb).later (alloc_low _ _); have HF_a_4 : Hid (Mt (w4.alloc (.cells #[.int .i64 R2, .int .i64 C2, .slice s4 N2 d4] 24)) s1 N1 d1 f1) := (HF_a_3.out.later hb).later (alloc_low _ _); have HF_b_4 : Hid (Mt (w4.alloc (.cells #[.int .i64 R2, .int .i64 C2, .slice s4 N2 d4] 24)) s2 N1 d2 f1) := (HF_b_3.out.later hb).later (alloc_low _ _); have HF_c_4 : Hid (Mt (w4.alloc (.cells #[.int .i64 R2, .int .i64 C2, .slice s4 N2 d4] 24)) s3 N2 d3 f2) := (HF_c_3.out.later hb).later (alloc_low _ _); have HV_d_4 : Hid (Vr (w4.alloc (.cells #[.int .i64 R2, .int .i64 C2, .slice s4 N2 d4] 24)) w4.heap.size (.int .i64 R2) (.int .i64 C2) (.slice s4 N2 d4)) := Vr.new w4 _ _ _; have HF_d_4 : Hid (Mt (w4.alloc (.cells #[.int .i64 R2, .int .i64 C2, .slice s4 N2 d4] 24)) s4 N2 d4 f2) := (hm).later (alloc_low _ _); clear hm; have l_m_0_4 := HV_m_4.out.c0; have l_m_1_4 := HV_m_4.out.c1; have l_m_2_4 := HV_m_4.out.c2; clear hb HV_m_3 HV_a_3 HV_b_3 HV_c_3 HF_m_3 HF_a_3 HF_b_3 HF_c_3)
    | (go_at_call 20; have _x := HB_2; refine ((HP2.out _ cap0 a0 HF_m_2.out).1).mono ?_; rintro e w3 ⟨s3, d3, rfl, hm, hb⟩; have HB_3 : Hid (Below w.heap.size w (w3.alloc (.cells #[.int .i64 R2, .int .i64 C2, .slice s3 N2 d3] 24))) := two_below (two_below HB_2.out hb) (alloc_low _ _); have HV_m_3 : Hid (Vr (w3.alloc (.cells #[.int .i64 R2, .int .i64 C2, .slice s3 N2 d3] 24)) w.heap.size (.int .i64 r0) (.int .i64 c0) (.slice a0 len0 cap0)) := (HV_m_2.out.later hb).later (alloc_low _ _); have HV_a_3 : Hid (Vr (w3.alloc (.cells #[.int .i64 R2, .int .i64 C2, .slice s3 N2 d3] 24)) w1.heap.size (.int .i64 R1) (.int .i64 C1) (.slice s1 N1 d1)) := (HV_a_2.out.later hb).later (alloc_low _ _); have HV_b_3 : Hid (Vr (w3.alloc (.cells #[.int .i64 R2, .int .i64 C2, .slice s3 N2 d3] 24)) w2.heap.size (.int .i64 R1) (.int .i64 C1) (.slice s2 N1 d2)) := (HV_b_2.out.later hb).later (alloc_low _ _); have HF_m_3 : Hid (Mt (w3.alloc (.cells #[.int .i64 R2, .int .i64 C2, .slice s3 N2 d3] 24)) a0 len0 cap0 F) := (HF_m_2.out.later hb).later (alloc_low _ _); have HF_a_3 : Hid (Mt (w3.alloc (.cells #[.int .i64 R2, .int .i64 C2, .slice s3 N2 d3] 24)) s1 N1 d1 f1) := (HF_a_2.out.later hb).later (alloc_low _ _); have HF_b_3 : Hid (Mt (w3.alloc (.cells #[.int .i64 R2, .int .i64 C2, .slice s3 N2 d3] 24)) s2 N1 d2 f1) := (HF_b_2.out.later hb).later (alloc_low _ _); have HV_c_3 : Hid (Vr (w3.alloc (.cells #[.int .i64 R2, .int .i64 C2, .slice s3 N2 d3] 24)) w3.heap.size (.int .i64 R2) (.int .i64 C2) (.slice s3 N2 d3)) := Vr.new w3 _ _ _; have HF_c_3 : Hid (Mt (w3.alloc (.cells #[.int .i64 R2, .int .i64 C2, .slice s3 N2 d3] 24)) s3 N2 d3 f2) := (hm).later (alloc_low _ _); clear hm; have l_m_0_3 := HV_m_3.out.c0; have l_m_1_3 := HV_m_3.out.c1; have l_m_2_3 := HV_m_3.out.c2; clear hb HV_m_2 HV_a_2 HV_b_2 HF_m_2 HF_a_2 HF_b_2)
    | (go_at_call 19; have _x := HB_1; refine ((HP1.out _ cap0 a0 HF_m_1.out).2).mono ?_; rintro e w2 ⟨s2, d2, rfl, hm, hb⟩; have HB_2 : Hid (Below w.heap.size w (w2.alloc (.cells #[.int .i64 R1, .int .i64 C1, .slice s2 N1 d2] 24))) := two_below (two_below HB_1.out hb) (alloc_low _ _); have HV_m_2 : Hid (Vr (w2.alloc (.cells #[.int .i64 R1, .int .i64 C1, .slice s2 N1 d2] 24)) w.heap.size (.int .i64 r0) (.int .i64 c0) (.slice a0 len0 cap0)) := (HV_m_1.out.later hb).later (alloc_low _ _); have HV_a_2 : Hid (Vr (w2.alloc (.cells #[.int .i64 R1, .int .i64 C1, .slice s2 N1 d2] 24)) w1.heap.size (.int .i64 R1) (.int .i64 C1) (.slice s1 N1 d1)) := (HV_a_1.out.later hb).later (alloc_low _ _); have HF_m_2 : Hid (Mt (w2.alloc (.cells #[.int .i64 R1, .int .i64 C1, .slice s2 N1 d2] 24)) a0 len0 cap0 F) := (HF_m_1.out.later hb).later (alloc_low _ _); have HF_a_2 : Hid (Mt (w2.alloc (.cells #[.int .i64 R1, .int .i64 C1, .slice s2 N1 d2] 24)) s1 N1 d1 f1) := (HF_a_1.out.later hb).later (alloc_low _ _); have HV_b_2 : Hid (Vr (w2.alloc (.cells #[.int .i64 R1, .int .i64 C1, .slice s2 N1 d2] 24)) w2.heap.size (.int .i64 R1) (.int .i64 C1) (.slice s2 N1 d2)) := Vr.new w2 _ _ _; have HF_b_2 : Hid (Mt (w2.alloc (.cells #[.int .i64 R1, .int .i64 C1, .slice s2 N1 d2] 24)) s2 N1 d2 f1) := (hm).later (alloc_low _ _); clear hm; have l_m_0_2 := HV_m_2.out.c0; have l_m_1_2 := HV_m_2.out.c1; have l_m_2_2 := HV_m_2.out.c2; clear hb HV_m_1 HV_a_1 HF_m_1 HF_a_1)
    | (go_at_call 18; rw [← HW.out]; refine ((HP1.out _ cap0 a0 HF_m_0.out).1).mono ?_; rintro e w1 ⟨s1, d1, rfl, hm, hb⟩; have HB_1 : Hid (Below w.heap.size w (w1.alloc (.cells #[.int .i64 R1, .int .i64 C1, .slice s1 N1 d1] 24))) := two_below (two_below HB_0.out hb) (alloc_low _ _); have HV_m_1 : Hid (Vr (w1.alloc (.cells #[.int .i64 R1, .int .i64 C1, .slice s1 N1 d1] 24)) w.heap.size (.int .i64 r0) (.int .i64 c0) (.slice a0 len0 cap0)) := (HV_m_0.out.later hb).later (alloc_low _ _); have HF_m_1 : Hid (Mt (w1.alloc (.cells #[.int .i64 R1, .int .i64 C1, .slice s1 N1 d1] 24)) a0 len0 cap0 F) := (HF_m_0.out.later hb).later (alloc_low _ _); have HV_a_1 : Hid (Vr (w1.alloc (.cells #[.int .i64 R1, .int .i64 C1, .slice s1 N1 d1] 24)) w1.heap.size (.int .i64 R1) (.int .i64 C1) (.slice s1 N1 d1)) := Vr.new w1 _ _ _; have HF_a_1 : Hid (Mt (w1.alloc (.cells #[.int .i64 R1, .int .i64 C1, .slice s1 N1 d1] 24)) s1 N1 d1 f1) := (hm).later (alloc_low _ _); clear hm; have l_m_0_1 := HV_m_1.out.c0; have l_m_1_1 := HV_m_1.out.c1; have l_m_2_1 := HV_m_1.out.c2; clear hb HV_m_0 HF_m_0))
  cases y <;> go_ret <;> exact ⟨rfl, HB_8.out⟩
set_option maxRecDepth 100000 in
set_option maxHeartbeats 2000000 in
theorem lifted (os : Os) (started : os.Started) (H : Type) (enc : TypeId × Value → H) :
    ReturnsInHanded {} Try.checked os 5 .any (Rows.buildTurnedSpec.pre6 enc Try.prog Try.f5 Rows.buildTurnedRow.domain false) (Rows.buildTurnedSpec.post enc Try.prog Try.f5 false true false false) := by
  refine returnsInHanded_of_change_sized (C := Try.checked) own started (by kernel_rfl) Try.func5
    (ChangeSpec.witness6 (enc := enc) (C := Try.checked) false ⟨#[], #[.agg #[.int .i64 0, .int .i64 0, .slice none 0 0]], []⟩ 8 (by kernel_rfl) (by kernel_rfl) (by kernel_rfl) (by kernel_rfl)) ?_
  intro W base args ds gs before hval0 hW hcnd hsz0 _
  have hsz : (DataW.weightsEach Try.prog (Try.f5.params.toList ++ Rows.buildTurnedSpec.plain.varTypes Try.prog) (ds ++ gs)).all (· ≤ reachBytes) = true := hsz0
  clear hsz0
  have hval : ∀ (j : Nat) t v, Try.f5.params[j]? = some t → args[j]? = some v → Value.okWide Try.prog W .any base t v := hval0
  have hW' := hW
  obtain ⟨p, q, hA0, hV, rfl, hfz, hnd⟩ := hW
  have hA : DataW.TrodAll enc Try.prog W 0 (fun _ => true) true Try.f5.params.toList args.toList ds p := hA0
  rw [Try.params5] at hA hval hsz
  obtain ⟨va0, vs0, d0, ds0, p0, q0, hargs, rfl, rfl, h0, tr0⟩ := trodAll_cons hA
  obtain ⟨rfl, rfl, rfl⟩ := trodAll_nil tr0
  obtain rfl : args = #[va0] := by cases args; simp_all
  obtain ⟨rfl, rfl⟩ := trodVars_none hV
  have k0 := h0
  have lt0 : ∀ x ∈ p0, x.block < W.heap.size := by obtain ⟨m, hm⟩ := k0; exact DataW.trod_lt m _ _ _ hm
  obtain ⟨f0, g0, s0, y0, x0, e0, m0, rfl, rfl, rfl, hf0, hg0, hs0⟩ := open_agg3 Try.underlying24 (by kernel_rfl) cellsM (hval 0 24 va0 rfl rfl) h0
  obtain ⟨r0, er0, rfl, u0⟩ := DataW.trod_int Try.underlying3 hf0
  obtain ⟨c0, ec0, rfl, v0⟩ := DataW.trod_int Try.underlying3 hg0
  simp only [List.cons.injEq, and_true] at er0 ec0
  subst er0 ec0
  obtain ⟨a0, len0, cap0, rfl⟩ : ∃ a l c, s0 = .slice a l c := by
    rcases open_ints Try.underlying22 Try.underlying5 (by kernel_rfl) hs0 with ⟨hcs, _⟩ | ⟨x, l, c, zs, hcs, _⟩
    · simp only [List.cons.injEq, and_true] at hcs; exact ⟨_, _, _, hcs⟩
    · simp only [List.cons.injEq, and_true] at hcs; exact ⟨_, _, _, hcs⟩
  obtain ⟨z0, w0⟩ : ∃ zs, IsRow .u8 W a0 len0 cap0 zs := by
    obtain ⟨fuel, hf⟩ := (⟨m0, hs0⟩ : ∃ fuel, DataW.trod enc Try.prog W 0 (fun _ => true) true fuel 22 [.slice a0 len0 cap0] = some e0)
    rcases open_ints Try.underlying22 Try.underlying5 (by kernel_rfl) hf with ⟨hcs, _⟩ | ⟨x, l, c, zs, hcs, _, hl, hm, hz, hxx, hcell, hwz⟩
    · simp at hcs
      obtain ⟨rfl, rfl, rfl⟩ := hcs
      exact ⟨[], .inl ⟨rfl, rfl, rfl, rfl⟩⟩
    · simp at hcs
      obtain ⟨rfl, rfl, rfl⟩ := hcs
      have hd := congrArg Prod.fst hxx
      have hs := sized_slice (sized_in hsz (j := 0) (t := 24) rfl rfl) (j := 2) (t := 22) (e := 5) rfl (congrArg some hd) Try.underlying22
      rw [show Try.prog.bytesOf 5 = 1 from by kernel_rfl] at hs
      have hzl : zs.length = cap0 := by simpa using hz
      simp only [lits, List.length_map, List.length_take, List.length_drop, reachBytes] at hs
      exact ⟨zs, .inr ⟨_, rfl, hl, by omega, by simpa using hz, hcell, hwz⟩⟩
  clear hA0 hval0
  refine (walk r0 c0 a0 len0 cap0 z0 W u0 v0 w0).mono fun e W' ⟨he, bel⟩ => ?_
  subst he
  exact ⟨_, rfl, _, _, _, [], _, [], hW', trodAll_mk1 (shut_bool Try.underlying4 _), (trodAll_cons_mk (Below.trod laidOut (by kernel_rfl) (of_decide_eq_true (by kernel_rfl)) k0 bel lt0) trodAll_mk0), rfl, bel.frame _, fun h => by cases h⟩
theorem over : Rows.buildTurnedRow.holds Try.pinned (OpenSpec.ofChange Rows.buildTurnedSpec) :=
  OpenClaim.holds_of_wide 5 Try.f5 rfl rfl rfl rfl rfl rfl rfl ⟨rfl, rfl, rfl, rfl, rfl⟩ rfl rfl rfl rfl rfl (by kernel_rfl) Try.func5 (by kernel_rfl)
    (of_decide_eq_true (by kernel_rfl)) (by unfold Func.isWrapper; first | (rw [if_pos (by decide +kernel)]; kernel_rfl) | (rw [if_neg (by decide +kernel)]; exact ⟨rfl, rfl⟩))
    (fun os started H enc _ => lifted os started H enc)
theorem proved : Rows.BuildTurnedSaid := over
#print axioms proved
end Go.Proofs.Ytblfldjlehjnbaa.buildTurned
