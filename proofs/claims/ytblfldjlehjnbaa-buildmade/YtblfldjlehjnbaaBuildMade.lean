/-
  Proved: for all numbers k and m the program's Vandermonde, Reed and Cross answer the document's, or its error (P5.1, P5.3); no condition.
-/
import Derived.Test.YtblfldjlehjnbaaGv
import Derived.WalkKit
import Derived.SizedLaws
import Derived.ProofKit
import Derived.OpenShut
import Derived.ShutString
import Derived.ChangeOld
import Derived.Below
import Derived.Lib.SmallJoins
import Derived.Deep.Matrix
namespace Go.Proofs.Ytblfldjlehjnbaa.buildMade
open Go.ChangeShapes Go.WideShapes Go.ChangeAt Go.RowKit Go.Joins
set_option linter.unusedVariables false
theorem own : ownKnob Try.prog.godebug = none := by kernel_rfl
theorem laidOut : laidOutB Try.prog = true := by kernel_rfl
/-- A slice of integers that came in. -/
def IsRow (k : IntKind) (w : World) (a : Option Addr) (len cap : Nat) (zs : List Int) : Prop :=
  (a = none ∧ len = 0 ∧ cap = 0 ∧ zs = []) ∨
  ∃ x, a = some x ∧ len ≤ cap ∧ cap ≤ 140737488351232 ∧ zs.length = cap ∧ (∀ i, i < zs.length → w.cell? (x.add i) = some (.int k (zs.getD i 0))) ∧ ∀ n ∈ zs, (Lit.int k n).wf = true
/-- A slice of slices of bytes that came in. -/
def IsRows (w : World) (a : Option Addr) (len cap : Nat) : Prop :=
  (a = none ∧ len = 0 ∧ cap = 0) ∨
  ∃ x, a = some x ∧ len ≤ cap ∧ cap ≤ 140737488351232 ∧ ∀ r, r < cap → ∃ b l c zs, w.cell? (x.add r) = some (.slice b l c) ∧ IsRow .u8 w b l c zs
theorem sized_in {H : Type} {P : Program} {ts : List TypeId} {ds : List (DataW H)} (h : (DataW.weightsEach P ts ds).all (· ≤ reachBytes) = true) {j : Nat} {t : TypeId} {d : DataW H} (ht : ts[j]? = some t) (hd : ds[j]? = some d) : (d.weights P t).all (· ≤ reachBytes) = true :=
  List.all_eq_true.2 fun n hn => List.all_eq_true.1 h n (DataW.weights_mem_each ht hd n hn)
theorem sized_all {H : Type} {P : Program} {e : TypeId} : ∀ {ds : List (DataW H)}, (DataW.weightsAll P e ds).all (· ≤ reachBytes) = true → ∀ d ∈ ds, (d.weights P e).all (· ≤ reachBytes) = true
  | [], _, d, hd => by simp at hd
  | d0 :: r, h, d, hd => by
    simp only [DataW.weightsAll, List.all_append, Bool.and_eq_true] at h
    rcases List.mem_cons.1 hd with rfl | hd
    · exact h.1
    · exact sized_all h.2 d hd
theorem i64_of_wf {n : Int} (h : (Lit.int .i64 n).wf = true) : I64 n := by
  have := bounds_i64 h
  exact ⟨by omega, by omega⟩

set_option maxRecDepth 20000 in
set_option maxHeartbeats 8000000 in
theorem walk (n0 : Int) (n1 : Int) (w : World) (w0 : (Lit.int .i64 n0).wf = true) (w1 : (Lit.int .i64 n1).wf = true) :
    Calls Try.prog 3 #[.int .i64 n0, .int .i64 n1] w fun e w' => e = .returned (.bool true) ∧ Below w.heap.size w w' := by
  have hw := (i64_of_wf w0).2
  obtain ⟨R1, C1, N1, f1, E1, hp1⟩ := vdm_pair n0 n1
  have HP1 := hid_of hp1
  obtain ⟨R2, C2, N2, f2, E2, hp2⟩ := reed_pair n0 n1 (by omega)
  have HP2 := hid_of hp2
  obtain ⟨R3, C3, N3, f3, E3, hp3⟩ := cross_pair n0 n1 (by omega)
  have HP3 := hid_of hp3
  have HB_0 : Hid (Below w.heap.size w w) := Below.refl _ _
  clear hp1 hp2 hp3 w0 w1 hw
  go_enter Try.func3, Try.ntmps3
  go_wp2_with (first
    | (go_at_call 15; have _x := HB_8; refine (like5_any _ R3 C3 R3 C3 E3 E3 s5 s6 N3 N3 d5 d6 f3 f3 HF_p_8.out.sl HF_q_8.out.sl true (hid_of (like_self R3 C3 E3 N3 f3))).mono ?_; rintro e w9 ⟨rfl, hb⟩; have HB_9 : Hid (Below w.heap.size w w9) := two_below HB_8.out hb; have HV_a_9 : Hid (Vr w9 w1.heap.size (.int .i64 R1) (.int .i64 C1) (.slice s1 N1 d1)) := HV_a_8.out.later hb; have HV_b_9 : Hid (Vr w9 w2.heap.size (.int .i64 R1) (.int .i64 C1) (.slice s2 N1 d2)) := HV_b_8.out.later hb; have HV_c_9 : Hid (Vr w9 w3.heap.size (.int .i64 R2) (.int .i64 C2) (.slice s3 N2 d3)) := HV_c_8.out.later hb; have HV_d_9 : Hid (Vr w9 w4.heap.size (.int .i64 R2) (.int .i64 C2) (.slice s4 N2 d4)) := HV_d_8.out.later hb; have HV_p_9 : Hid (Vr w9 w5.heap.size (.int .i64 R3) (.int .i64 C3) (.slice s5 N3 d5)) := HV_p_8.out.later hb; have HV_q_9 : Hid (Vr w9 w6.heap.size (.int .i64 R3) (.int .i64 C3) (.slice s6 N3 d6)) := HV_q_8.out.later hb; have HF_a_9 : Hid (Mt w9 s1 N1 d1 f1) := HF_a_8.out.later hb; have HF_b_9 : Hid (Mt w9 s2 N1 d2 f1) := HF_b_8.out.later hb; have HF_c_9 : Hid (Mt w9 s3 N2 d3 f2) := HF_c_8.out.later hb; have HF_d_9 : Hid (Mt w9 s4 N2 d4 f2) := HF_d_8.out.later hb; have HF_p_9 : Hid (Mt w9 s5 N3 d5 f3) := HF_p_8.out.later hb; have HF_q_9 : Hid (Mt w9 s6 N3 d6 f3) := HF_q_8.out.later hb; clear hb HV_a_8 HV_b_8 HV_c_8 HV_d_8 HV_p_8 HV_q_8 HF_a_8 HF_b_8 HF_c_8 HF_d_8 HF_p_8 HF_q_8)
    | (go_at_call 15; have _x := HB_7; refine (like5_any _ R2 C2 R2 C2 E2 E2 s3 s4 N2 N2 d3 d4 f2 f2 HF_c_7.out.sl HF_d_7.out.sl true (hid_of (like_self R2 C2 E2 N2 f2))).mono ?_; rintro e w8 ⟨rfl, hb⟩; have HB_8 : Hid (Below w.heap.size w w8) := two_below HB_7.out hb; have HV_a_8 : Hid (Vr w8 w1.heap.size (.int .i64 R1) (.int .i64 C1) (.slice s1 N1 d1)) := HV_a_7.out.later hb; have HV_b_8 : Hid (Vr w8 w2.heap.size (.int .i64 R1) (.int .i64 C1) (.slice s2 N1 d2)) := HV_b_7.out.later hb; have HV_c_8 : Hid (Vr w8 w3.heap.size (.int .i64 R2) (.int .i64 C2) (.slice s3 N2 d3)) := HV_c_7.out.later hb; have HV_d_8 : Hid (Vr w8 w4.heap.size (.int .i64 R2) (.int .i64 C2) (.slice s4 N2 d4)) := HV_d_7.out.later hb; have HV_p_8 : Hid (Vr w8 w5.heap.size (.int .i64 R3) (.int .i64 C3) (.slice s5 N3 d5)) := HV_p_7.out.later hb; have HV_q_8 : Hid (Vr w8 w6.heap.size (.int .i64 R3) (.int .i64 C3) (.slice s6 N3 d6)) := HV_q_7.out.later hb; have HF_a_8 : Hid (Mt w8 s1 N1 d1 f1) := HF_a_7.out.later hb; have HF_b_8 : Hid (Mt w8 s2 N1 d2 f1) := HF_b_7.out.later hb; have HF_c_8 : Hid (Mt w8 s3 N2 d3 f2) := HF_c_7.out.later hb; have HF_d_8 : Hid (Mt w8 s4 N2 d4 f2) := HF_d_7.out.later hb; have HF_p_8 : Hid (Mt w8 s5 N3 d5 f3) := HF_p_7.out.later hb; have HF_q_8 : Hid (Mt w8 s6 N3 d6 f3) := HF_q_7.out.later hb; have l_p_0_8 := HV_p_8.out.c0; have l_p_1_8 := HV_p_8.out.c1; have l_p_2_8 := HV_p_8.out.c2; have l_q_0_8 := HV_q_8.out.c0; have l_q_1_8 := HV_q_8.out.c1; have l_q_2_8 := HV_q_8.out.c2; clear hb HV_a_7 HV_b_7 HV_c_7 HV_d_7 HV_p_7 HV_q_7 HF_a_7 HF_b_7 HF_c_7 HF_d_7 HF_p_7 HF_q_7)
    | (go_at_call 15; have _x := HB_6; refine (like5_any _ R1 C1 R1 C1 E1 E1 s1 s2 N1 N1 d1 d2 f1 f1 HF_a_6.out.sl HF_b_6.out.sl true (hid_of (like_self R1 C1 E1 N1 f1))).mono ?_; rintro e w7 ⟨rfl, hb⟩; have HB_7 : Hid (Below w.heap.size w w7) := two_below HB_6.out hb; have HV_a_7 : Hid (Vr w7 w1.heap.size (.int .i64 R1) (.int .i64 C1) (.slice s1 N1 d1)) := HV_a_6.out.later hb; have HV_b_7 : Hid (Vr w7 w2.heap.size (.int .i64 R1) (.int .i64 C1) (.slice s2 N1 d2)) := HV_b_6.out.later hb; have HV_c_7 : Hid (Vr w7 w3.heap.size (.int .i64 R2) (.int .i64 C2) (.slice s3 N2 d3)) := HV_c_6.out.later hb; have HV_d_7 : Hid (Vr w7 w4.heap.size (.int .i64 R2) (.int .i64 C2) (.slice s4 N2 d4)) := HV_d_6.out.later hb; have HV_p_7 : Hid (Vr w7 w5.heap.size (.int .i64 R3) (.int .i64 C3) (.slice s5 N3 d5)) := HV_p_6.out.later hb; have HV_q_7 : Hid (Vr w7 w6.heap.size (.int .i64 R3) (.int .i64 C3) (.slice s6 N3 d6)) := HV_q_6.out.later hb; have HF_a_7 : Hid (Mt w7 s1 N1 d1 f1) := HF_a_6.out.later hb; have HF_b_7 : Hid (Mt w7 s2 N1 d2 f1) := HF_b_6.out.later hb; have HF_c_7 : Hid (Mt w7 s3 N2 d3 f2) := HF_c_6.out.later hb; have HF_d_7 : Hid (Mt w7 s4 N2 d4 f2) := HF_d_6.out.later hb; have HF_p_7 : Hid (Mt w7 s5 N3 d5 f3) := HF_p_6.out.later hb; have HF_q_7 : Hid (Mt w7 s6 N3 d6 f3) := HF_q_6.out.later hb; have l_c_0_7 := HV_c_7.out.c0; have l_c_1_7 := HV_c_7.out.c1; have l_c_2_7 := HV_c_7.out.c2; have l_d_0_7 := HV_d_7.out.c0; have l_d_1_7 := HV_d_7.out.c1; have l_d_2_7 := HV_d_7.out.c2; clear hb HV_a_6 HV_b_6 HV_c_6 HV_d_6 HV_p_6 HV_q_6 HF_a_6 HF_b_6 HF_c_6 HF_d_6 HF_p_6 HF_q_6)
    | (go_at_call 14; have _x := HB_5; refine ((HP3.out _).2).mono ?_; rintro e w6 ⟨s6, d6, rfl, hm, hb⟩; have HB_6 : Hid (Below w.heap.size w (w6.alloc (.cells #[.int .i64 R3, .int .i64 C3, .slice s6 N3 d6] 24))) := two_below (two_below HB_5.out hb) (alloc_low _ _); have HV_a_6 : Hid (Vr (w6.alloc (.cells #[.int .i64 R3, .int .i64 C3, .slice s6 N3 d6] 24)) w1.heap.size (.int .i64 R1) (.int .i64 C1) (.slice s1 N1 d1)) := (HV_a_5.out.later hb).later (alloc_low _ _); have HV_b_6 : Hid (Vr (w6.alloc (.cells #[.int .i64 R3, .int .i64 C3, .slice s6 N3 d6] 24)) w2.heap.size (.int .i64 R1) (.int .i64 C1) (.slice s2 N1 d2)) := (HV_b_5.out.later hb).later (alloc_low _ _); have HV_c_6 : Hid (Vr (w6.alloc (.cells #[.int .i64 R3, .int .i64 C3, .slice s6 N3 d6] 24)) w3.heap.size (.int .i64 R2) (.int .i64 C2) (.slice s3 N2 d3)) := (HV_c_5.out.later hb).later (alloc_low _ _); have HV_d_6 : Hid (Vr (w6.alloc (.cells #[.int .i64 R3, .int .i64 C3, .slice s6 N3 d6] 24)) w4.heap.size (.int .i64 R2) (.int .i64 C2) (.slice s4 N2 d4)) := (HV_d_5.out.later hb).later (alloc_low _ _); have HV_p_6 : Hid (Vr (w6.alloc (.cells #[.int .i64 R3, .int .i64 C3, .slice s6 N3 d6] 24)) w5.heap.size (.int .i64 R3) (.int .i64 C3) (.slice s5 N3 d5)) := (HV_p_5.out.later hb).later (alloc_low _ _); have HF_a_6 : Hid (Mt (w6.alloc (.cells #[.int .i64 R3, .int .i64 C3, .slice s6 N3 d6] 24)) s1 N1 d1 f1) := (HF_a_5.out.later hb).later (alloc_low _ _); have HF_b_6 : Hid (Mt (w6.alloc (.cells #[.int .i64 R3, .int .i64 C3, .slice s6 N3 d6] 24)) s2 N1 d2 f1) := (HF_b_5.out.later hb).later (alloc_low _ _); have HF_c_6 : Hid (Mt (w6.alloc (.cells #[.int .i64 R3, .int .i64 C3, .slice s6 N3 d6] 24)) s3 N2 d3 f2) := (HF_c_5.out.later hb).later (alloc_low _ _); have HF_d_6 : Hid (Mt (w6.alloc (.cells #[.int .i64 R3, .int .i64 C3, .slice s6 N3 d6] 24)) s4 N2 d4 f2) := (HF_d_5.out.later hb).later (alloc_low _ _); have HF_p_6 : Hid (Mt (w6.alloc (.cells #[.int .i64 R3, .int .i64 C3, .slice s6 N3 d6] 24)) s5 N3 d5 f3) := (HF_p_5.out.later hb).later (alloc_low _ _); have HV_q_6 : Hid (Vr (w6.alloc (.cells #[.int .i64 R3, .int .i64 C3, .slice s6 N3 d6] 24)) w6.heap.size (.int .i64 R3) (.int .i64 C3) (.slice s6 N3 d6)) := Vr.new w6 _ _ _; have HF_q_6 : Hid (Mt (w6.alloc (.cells #[.int .i64 R3, .int .i64 C3, .slice s6 N3 d6] 24)) s6 N3 d6 f3) := (hm).later (alloc_low _ _); clear hm; have l_a_0_6 := HV_a_6.out.c0; have l_a_1_6 := HV_a_6.out.c1; have l_a_2_6 := HV_a_6.out.c2; have l_b_0_6 := HV_b_6.out.c0; have l_b_1_6 := HV_b_6.out.c1; have l_b_2_6 := HV_b_6.out.c2; clear hb HV_a_5 HV_b_5 HV_c_5 HV_d_5 HV_p_5 HF_a_5 HF_b_5 HF_c_5 HF_d_5 HF_p_5)
    | (go_at_call 13; have _x := HB_4; refine ((HP3.out _).1).mono ?_; rintro e w5 ⟨s5, d5, rfl, hm, hb⟩; have HB_5 : Hid (Below w.heap.size w (w5.alloc (.cells #[.int .i64 R3, .int .i64 C3, .slice s5 N3 d5] 24))) := two_below (two_below HB_4.out hb) (alloc_low _ _); have HV_a_5 : Hid (Vr (w5.alloc (.cells #[.int .i64 R3, .int .i64 C3, .slice s5 N3 d5] 24)) w1.heap.size (.int .i64 R1) (.int .i64 C1) (.slice s1 N1 d1)) := (HV_a_4.out.later hb).later (alloc_low _ _); have HV_b_5 : Hid (Vr (w5.alloc (.cells #[.int .i64 R3, .int .i64 C3, .slice s5 N3 d5] 24)) w2.heap.size (.int .i64 R1) (.int .i64 C1) (.slice s2 N1 d2)) := (HV_b_4.out.later hb).later (alloc_low _ _); have HV_c_5 : Hid (Vr (w5.alloc (.cells #[.int .i64 R3, .int .i64 C3, .slice s5 N3 d5] 24)) w3.heap.size (.int .i64 R2) (.int .i64 C2) (.slice s3 N2 d3)) := (HV_c_4.out.later hb).later (alloc_low _ _); have HV_d_5 : Hid (Vr (w5.alloc (.cells #[.int .i64 R3, .int .i64 C3, .slice s5 N3 d5] 24)) w4.heap.size (.int .i64 R2) (.int .i64 C2) (.slice s4 N2 d4)) := (HV_d_4.out.later hb).later (alloc_low _ _); have HF_a_5 : Hid (Mt (w5.alloc (.cells #[.int .i64 R3, .int .i64 C3, .slice s5 N3 d5] 24)) s1 N1 d1 f1) := (HF_a_4.out.later hb).later (alloc_low _ _); have HF_b_5 : Hid (Mt (w5.alloc (.cells #[.int .i64 R3, .int .i64 C3, .slice s5 N3 d5] 24)) s2 N1 d2 f1) := (HF_b_4.out.later hb).later (alloc_low _ _); have HF_c_5 : Hid (Mt (w5.alloc (.cells #[.int .i64 R3, .int .i64 C3, .slice s5 N3 d5] 24)) s3 N2 d3 f2) := (HF_c_4.out.later hb).later (alloc_low _ _); have HF_d_5 : Hid (Mt (w5.alloc (.cells #[.int .i64 R3, .int .i64 C3, .slice s5 N3 d5] 24)) s4 N2 d4 f2) := (HF_d_4.out.later hb).later (alloc_low _ _); have HV_p_5 : Hid (Vr (w5.alloc (.cells #[.int .i64 R3, .int .i64 C3, .slice s5 N3 d5] 24)) w5.heap.size (.int .i64 R3) (.int .i64 C3) (.slice s5 N3 d5)) := Vr.new w5 _ _ _; have HF_p_5 : Hid (Mt (w5.alloc (.cells #[.int .i64 R3, .int .i64 C3, .slice s5 N3 d5] 24)) s5 N3 d5 f3) := (hm).later (alloc_low _ _); clear hm; clear hb HV_a_4 HV_b_4 HV_c_4 HV_d_4 HF_a_4 HF_b_4 HF_c_4 HF_d_4)
    | (go_at_call 12; have _x := HB_3; refine ((HP2.out _).2).mono ?_; rintro e w4 ⟨s4, d4, rfl, hm, hb⟩; have HB_4 : Hid (Below w.heap.size w (w4.alloc (.cells #[.int .i64 R2, .int .i64 C2, .slice s4 N2 d4] 24))) := two_below (two_below HB_3.out hb) (alloc_low _ _); have HV_a_4 : Hid (Vr (w4.alloc (.cells #[.int .i64 R2, .int .i64 C2, .slice s4 N2 d4] 24)) w1.heap.size (.int .i64 R1) (.int .i64 C1) (.slice s1 N1 d1)) := (HV_a_3.out.later hb).later (alloc_low _ _); have HV_b_4 : Hid (Vr (w4.alloc (.cells #[.int .i64 R2, .int .i64 C2, .slice s4 N2 d4] 24)) w2.heap.size (.int .i64 R1) (.int .i64 C1) (.slice s2 N1 d2)) := (HV_b_3.out.later hb).later (alloc_low _ _); have HV_c_4 : Hid (Vr (w4.alloc (.cells #[.int .i64 R2, .int .i64 C2, .slice s4 N2 d4] 24)) w3.heap.size (.int .i64 R2) (.int .i64 C2) (.slice s3 N2 d3)) := (HV_c_3.out.later hb).later (alloc_low _ _); have HF_a_4 : Hid (Mt (w4.alloc (.cells #[.int .i64 R2, .int .i64 C2, .slice s4 N2 d4] 24)) s1 N1 d1 f1) := (HF_a_3.out.later hb).later (alloc_low _ _); have HF_b_4 : Hid (Mt (w4.alloc (.cells #[.int .i64 R2, .int .i64 C2, .slice s4 N2 d4] 24)) s2 N1 d2 f1) := (HF_b_3.out.later hb).later (alloc_low _ _); have HF_c_4 : Hid (Mt (w4.alloc (.cells #[.int .i64 R2, .int .i64 C2, .slice s4 N2 d4] 24)) s3 N2 d3 f2) := (HF_c_3.out.later hb).later (alloc_low _ _); have HV_d_4 : Hid (Vr (w4.alloc (.cells #[.int .i64 R2, .int .i64 C2, .slice s4 N2 d4] 24)) w4.heap.size (.int .i64 R2) (.int .i64 C2) (.slice s4 N2 d4)) := Vr.new w4 _ _ _; have HF_d_4 : Hid (Mt (w4.alloc (.cells #[.int .i64 R2, .int .i64 C2, .slice s4 N2 d4] 24)) s4 N2 d4 f2) := (hm).later (alloc_low _ _); clear hm; clear hb HV_a_3 HV_b_3 HV_c_3 HF_a_3 HF_b_3 HF_c_3)
    | (go_at_call 11; have _x := HB_2; refine ((HP2.out _).1).mono ?_; rintro e w3 ⟨s3, d3, rfl, hm, hb⟩; have HB_3 : Hid (Below w.heap.size w (w3.alloc (.cells #[.int .i64 R2, .int .i64 C2, .slice s3 N2 d3] 24))) := two_below (two_below HB_2.out hb) (alloc_low _ _); have HV_a_3 : Hid (Vr (w3.alloc (.cells #[.int .i64 R2, .int .i64 C2, .slice s3 N2 d3] 24)) w1.heap.size (.int .i64 R1) (.int .i64 C1) (.slice s1 N1 d1)) := (HV_a_2.out.later hb).later (alloc_low _ _); have HV_b_3 : Hid (Vr (w3.alloc (.cells #[.int .i64 R2, .int .i64 C2, .slice s3 N2 d3] 24)) w2.heap.size (.int .i64 R1) (.int .i64 C1) (.slice s2 N1 d2)) := (HV_b_2.out.later hb).later (alloc_low _ _); have HF_a_3 : Hid (Mt (w3.alloc (.cells #[.int .i64 R2, .int .i64 C2, .slice s3 N2 d3] 24)) s1 N1 d1 f1) := (HF_a_2.out.later hb).later (alloc_low _ _); have HF_b_3 : Hid (Mt (w3.alloc (.cells #[.int .i64 R2, .int .i64 C2, .slice s3 N2 d3] 24)) s2 N1 d2 f1) := (HF_b_2.out.later hb).later (alloc_low _ _); have HV_c_3 : Hid (Vr (w3.alloc (.cells #[.int .i64 R2, .int .i64 C2, .slice s3 N2 d3] 24)) w3.heap.size (.int .i64 R2) (.int .i64 C2) (.slice s3 N2 d3)) := Vr.new w3 _ _ _; have HF_c_3 : Hid (Mt (w3.alloc (.cells #[.int .i64 R2, .int .i64 C2, .slice s3 N2 d3] 24)) s3 N2 d3 f2) := (hm).later (alloc_low _ _); clear hm; clear hb HV_a_2 HV_b_2 HF_a_2 HF_b_2)
    | (go_at_call 10; have _x := HB_1; refine ((HP1.out _).2).mono ?_; rintro e w2 ⟨s2, d2, rfl, hm, hb⟩; have HB_2 : Hid (Below w.heap.size w (w2.alloc (.cells #[.int .i64 R1, .int .i64 C1, .slice s2 N1 d2] 24))) := two_below (two_below HB_1.out hb) (alloc_low _ _); have HV_a_2 : Hid (Vr (w2.alloc (.cells #[.int .i64 R1, .int .i64 C1, .slice s2 N1 d2] 24)) w1.heap.size (.int .i64 R1) (.int .i64 C1) (.slice s1 N1 d1)) := (HV_a_1.out.later hb).later (alloc_low _ _); have HF_a_2 : Hid (Mt (w2.alloc (.cells #[.int .i64 R1, .int .i64 C1, .slice s2 N1 d2] 24)) s1 N1 d1 f1) := (HF_a_1.out.later hb).later (alloc_low _ _); have HV_b_2 : Hid (Vr (w2.alloc (.cells #[.int .i64 R1, .int .i64 C1, .slice s2 N1 d2] 24)) w2.heap.size (.int .i64 R1) (.int .i64 C1) (.slice s2 N1 d2)) := Vr.new w2 _ _ _; have HF_b_2 : Hid (Mt (w2.alloc (.cells #[.int .i64 R1, .int .i64 C1, .slice s2 N1 d2] 24)) s2 N1 d2 f1) := (hm).later (alloc_low _ _); clear hm; clear hb HV_a_1 HF_a_1)
    | (go_at_call 9; have _x := HB_0; refine ((HP1.out _).1).mono ?_; rintro e w1 ⟨s1, d1, rfl, hm, hb⟩; have HB_1 : Hid (Below w.heap.size w (w1.alloc (.cells #[.int .i64 R1, .int .i64 C1, .slice s1 N1 d1] 24))) := two_below (two_below HB_0.out hb) (alloc_low _ _); have HV_a_1 : Hid (Vr (w1.alloc (.cells #[.int .i64 R1, .int .i64 C1, .slice s1 N1 d1] 24)) w1.heap.size (.int .i64 R1) (.int .i64 C1) (.slice s1 N1 d1)) := Vr.new w1 _ _ _; have HF_a_1 : Hid (Mt (w1.alloc (.cells #[.int .i64 R1, .int .i64 C1, .slice s1 N1 d1] 24)) s1 N1 d1 f1) := (hm).later (alloc_low _ _); clear hm; clear hb ))
  go_ret
  exact ⟨rfl, HB_9.out⟩
set_option maxRecDepth 100000 in
set_option maxHeartbeats 2000000 in
theorem lifted (os : Os) (started : os.Started) (H : Type) (enc : TypeId × Value → H) :
    ReturnsInHanded {} Try.checked os 3 .any (Rows.buildMadeSpec.pre6 enc Try.prog Try.f3 Rows.buildMadeRow.domain false) (Rows.buildMadeSpec.post enc Try.prog Try.f3 false true false false) := by
  refine returnsInHanded_of_change_sized (C := Try.checked) own started (by kernel_rfl) Try.func3
    (ChangeSpec.witness6 (enc := enc) (C := Try.checked) false ⟨#[], #[.int .i64 0, .int .i64 0], []⟩ 8 (by kernel_rfl) (by kernel_rfl) (by kernel_rfl) (by kernel_rfl)) ?_
  intro W base args ds gs before hval0 hW hcnd hsz0 _
  have hsz : (DataW.weightsEach Try.prog (Try.f3.params.toList ++ Rows.buildMadeSpec.plain.varTypes Try.prog) (ds ++ gs)).all (· ≤ reachBytes) = true := hsz0
  clear hsz0
  have hval : ∀ (j : Nat) t v, Try.f3.params[j]? = some t → args[j]? = some v → Value.okWide Try.prog W .any base t v := hval0
  have hW' := hW
  obtain ⟨p, q, hA0, hV, rfl, hfz, hnd⟩ := hW
  have hA : DataW.TrodAll enc Try.prog W 0 (fun _ => true) true Try.f3.params.toList args.toList ds p := hA0
  rw [Try.params3] at hA hval hsz
  obtain ⟨va0, vs0, d0, ds0, p0, q0, hargs, rfl, rfl, h0, tr0⟩ := trodAll_cons hA
  obtain ⟨va1, vs1, d1, ds1, p1, q1, rfl, rfl, rfl, h1, tr1⟩ := trodAll_cons tr0
  obtain ⟨rfl, rfl, rfl⟩ := trodAll_nil tr1
  obtain rfl : args = #[va0, va1] := by cases args; simp_all
  obtain ⟨rfl, rfl⟩ := trodVars_none hV
  have k0 := h0
  have lt0 : ∀ x ∈ p0, x.block < W.heap.size := by obtain ⟨m, hm⟩ := k0; exact DataW.trod_lt m _ _ _ hm
  obtain ⟨n0, rfl, w0⟩ : ∃ n, va0 = .int .i64 n ∧ (Lit.int .i64 n).wf = true := by
    obtain ⟨n, rfl, _, _, hw⟩ := open_int Try.underlying3 (hval 0 3 va0 rfl rfl) h0
    exact ⟨n, rfl, hw⟩
  have k1 := h1
  have lt1 : ∀ x ∈ p1, x.block < W.heap.size := by obtain ⟨m, hm⟩ := k1; exact DataW.trod_lt m _ _ _ hm
  obtain ⟨n1, rfl, w1⟩ : ∃ n, va1 = .int .i64 n ∧ (Lit.int .i64 n).wf = true := by
    obtain ⟨n, rfl, _, _, hw⟩ := open_int Try.underlying3 (hval 1 3 va1 rfl rfl) h1
    exact ⟨n, rfl, hw⟩
  clear hA0 hval0
  refine (walk n0 n1 W w0 w1).mono fun e W' ⟨he, bel⟩ => ?_
  subst he
  exact ⟨_, rfl, _, _, _, [], _, [], hW', trodAll_mk1 (shut_bool Try.underlying4 _), (trodAll_cons_mk (Below.trod laidOut (by kernel_rfl) (of_decide_eq_true (by kernel_rfl)) k0 bel lt0) (trodAll_cons_mk (Below.trod laidOut (by kernel_rfl) (of_decide_eq_true (by kernel_rfl)) k1 bel lt1) trodAll_mk0)), rfl, bel.frame _, fun h => by cases h⟩
theorem over : Rows.buildMadeRow.holds Try.pinned (OpenSpec.ofChange Rows.buildMadeSpec) :=
  OpenClaim.holds_of_wide 3 Try.f3 rfl rfl rfl rfl rfl rfl rfl ⟨rfl, rfl, rfl, rfl, rfl⟩ rfl rfl rfl rfl rfl (by kernel_rfl) Try.func3 (by kernel_rfl)
    (of_decide_eq_true (by kernel_rfl)) (by unfold Func.isWrapper; first | (rw [if_pos (by decide +kernel)]; kernel_rfl) | (rw [if_neg (by decide +kernel)]; exact ⟨rfl, rfl⟩))
    (fun os started H enc _ => lifted os started H enc)
theorem proved : Rows.BuildMadeSaid := over
#print axioms proved
end Go.Proofs.Ytblfldjlehjnbaa.buildMade
